/-
  The document's answer for package decl: a field, read.
-/
import Derived.Test.YtgokhagbknlfaaaRdr
import Derived.Test.YtgokhagbknlfaaaScOwn
import Derived.Deep.RegionHeld3
import Derived.Deep.Cut
namespace Go.Proofs.Ytgokhagbknlfaaa
open Go.RowKit
set_option maxRecDepth 100000

set_option maxRecDepth 100000 in
set_option maxHeartbeats 8000000 in
theorem refDField_any {p lo : Nat} (L : List Int) (s : Ev.St) (w : World) (h : RS p lo w L s) (hlp : lo ≤ p) (hL : L.length ≤ 1000000) (hb : ∀ y ∈ L, 0 ≤ y ∧ y < 256) :
    Calls Try.prog 35 #[.pointer (some ⟨p, 0, none⟩)] w fun r w' => ∃ mv, r = .returned (fieldV (Dl.flR s).1 mv) ∧ OwnS mvE 73 4 w.heap.size w' (fun _ => False) mv (Dl.flR s).1.ms ∧ RS p lo w' L (Dl.flR s).2 ∧ Kp p (p + 1) w w' := by
  have HI := Lib.hid (fun (s : Ev.St) W (h : RS p lo W L s) => rs_int L s W h hL hb)
  have HCT := Lib.hid (fun (m : Int) (s : Ev.St) W (h : RS p lo W L s) => rs_cnt m L s W h hL hb)
  have hpw := h.lt
  have HFL : Hid (Dl.flR s = (⟨(Ev.i1 s).1, (Ev.i1 (Ev.i1 s).2).1, (Dl.cn 1 (Ev.i1 (Ev.i1 s).2).2).1 == 1, (Dl.row 16 Dl.mvR (Dl.cn 1 (Ev.i1 (Ev.i1 s).2).2).2).1⟩, (Dl.row 16 Dl.mvR (Dl.cn 1 (Ev.i1 (Ev.i1 s).2).2).2).2)) := rfl
  have HRW : Hid (∀ s, Dl.row 16 Dl.mvR s = Dl.rep Dl.mvR (Dl.cn 16 s).1.toNat (Dl.cn 16 s).2) := fun _ => rfl
  have HQ0 := Lib.hid (blk_one w (.cells #[.int .i64 0, .int .i64 0, .bool false, .slice none 0 0] 45))
  have HK0 : Hid (Kp 0 0 w (w.alloc (.cells #[.int .i64 0, .int .i64 0, .bool false, .slice none 0 0] 45))) := (Kp.refl _ _ _).alloc _
  have HR0 := Lib.hid (h.keep0 HK0.out hlp)
  clear h
  go_enter Try.func35, Try.ntmps35
  go_wp2_with fail
  generalize w.alloc (.cells #[.int .i64 0, .int .i64 0, .bool false, .slice none 0 0] 45) = w0 at HK0 HQ0 HR0 ⊢
  generalize hq : w.heap.size = q at HQ0 hpw ⊢
  have HQE := Lib.hid hq
  clear hq
  refine (HI.out _ _ HR0.out).mono ?_
  rintro r v1 ⟨rfl, hr1, hk1⟩
  generalize Ev.i1 s = A1 at hr1 HFL ⊢
  have HS1 : Hid (q < v1.heap.size) := heap_lt (hk1.heap HQ0.out (.inr (by omega)))
  have HQ1 := Lib.hid (blk_one v1 (.cells #[.int .i64 A1.1, .int .i64 0, .bool false, .slice none 0 0] 45))
  have HKA : Hid (Kp 0 0 v1 (v1.alloc (.cells #[.int .i64 A1.1, .int .i64 0, .bool false, .slice none 0 0] 45))) := (Kp.refl _ _ _).alloc _
  have HR1 := Lib.hid (hr1.keep0 HKA.out hlp)
  have HQ01 := Lib.hid (HKA.out.heap (hk1.heap HQ0.out (.inr (by omega))) (.inr (Nat.zero_le _)))
  have HK1 : Hid (Kp p (p + 1) w (v1.alloc (.cells #[.int .i64 A1.1, .int .i64 0, .bool false, .slice none 0 0] 45))) := (HK0.out.any.trans hk1).alloc _
  clear hr1 hk1 HQ0 HK0 HR0 HKA
  go_upto_region 2 with fail
  generalize v1.alloc (.cells #[.int .i64 A1.1, .int .i64 0, .bool false, .slice none 0 0] 45) = w1 at HQ1 HR1 HQ01 HK1 ⊢
  generalize hf : v1.heap.size = f at HQ1 HS1 ⊢
  clear hf
  have hqf := HS1.out
  go_wp2_with fail
  refine (HI.out _ _ HR1.out).mono ?_
  rintro r v2 ⟨rfl, hr2, hk2⟩
  generalize Ev.i1 A1.2 = A2 at hr2 HFL ⊢
  have hb2 := hk2.heap HQ1.out (.inr (by omega))
  have hq2 := hk2.heap HQ01.out (.inr (by omega))
  have y1 := blk_cell hb2 (k := 1) (u := .int .i64 0) rfl
  have z1 := blk_frozen hb2 1
  have hks := kp_set v2 f 1 (.int .i64 A2.1)
  have HQ2 : Hid ((v2.setCell ⟨f, 1, none⟩ (.int .i64 A2.1)).heap[f]? = some (.cells #[.int .i64 A1.1, .int .i64 A2.1, .bool false, .slice none 0 0] 45 (0, 0))) := blk_set hb2 1 _
  have HQ02 := Lib.hid (hks.heap hq2 (.inl hqf))
  have HR2 := Lib.hid (hr2.keep hks (fun b h1 h2 => .inl (by omega)) hlp)
  have HK2 : Hid (Kp p (p + 1) w (v2.setCell ⟨f, 1, none⟩ (.int .i64 A2.1))) := (HK1.out.trans hk2).step hks (fun j h1 h2 => .inl (by have := HQE.out; omega))
  clear hr2 hk2 hb2 hq2 hks HQ1 HQ01 HR1 HK1
  go_wp2_with fail
  generalize v2.setCell ⟨f, 1, none⟩ (.int .i64 A2.1) = w2 at HQ2 HQ02 HR2 HK2 ⊢
  clear y1 z1
  refine (HCT.out 1 _ _ HR2.out).mono ?_
  rintro r v3 ⟨rfl, hr3, hk3⟩
  generalize Dl.cn 1 A2.2 = C3 at hr3 HFL ⊢
  have hb3 := hk3.heap HQ2.out (.inr (by omega))
  have hq3 := hk3.heap HQ02.out (.inr (by omega))
  have y2 := blk_cell hb3 (k := 2) (u := .bool false) rfl
  have z2 := blk_frozen hb3 2
  generalize hB3 : (C3.1 == 1) = B3 at HFL
  have hks := kp_set v3 f 2 (.bool B3)
  have HQ3 : Hid ((v3.setCell ⟨f, 2, none⟩ (.bool B3)).heap[f]? = some (.cells #[.int .i64 A1.1, .int .i64 A2.1, .bool B3, .slice none 0 0] 45 (0, 0))) := blk_set hb3 2 _
  have HQ03 := Lib.hid (hks.heap hq3 (.inl hqf))
  have HR3 := Lib.hid (hr3.keep hks (fun b h1 h2 => .inl (by omega)) hlp)
  have HK3 : Hid (Kp p (p + 1) w (v3.setCell ⟨f, 2, none⟩ (.bool B3))) := (HK2.out.trans hk3).step hks (fun j h1 h2 => .inl (by have := HQE.out; omega))
  clear hr3 hk3 hb3 hq3 hks HQ2 HQ02 HR2 HK2
  go_wp2_with fail
  try rw [hB3]
  generalize v3.setCell ⟨f, 2, none⟩ (.bool B3) = w3 at HQ3 HQ03 HR3 HK3 ⊢
  clear y2 z2 hB3
  refine (HCT.out 16 _ _ HR3.out).mono ?_
  rintro r v4 ⟨rfl, hr4, hk4⟩
  have hcr := Dl.cn_range 16 (by decide) C3.2
  rw [HRW.out] at HFL
  generalize Dl.cn 16 C3.2 = C4 at hr4 HFL hcr ⊢
  obtain ⟨N, hN⟩ : ∃ N : Nat, C4.1 = (N : Int) := ⟨C4.1.toNat, by omega⟩
  have hN16 : N ≤ 16 := by omega
  rw [hN, Int.toNat_natCast] at HFL
  rw [hN]
  have HR4 := Lib.hid hr4
  have HQ4 := Lib.hid (hk4.heap HQ3.out (.inr (by omega)))
  have HQ04 := Lib.hid (hk4.heap HQ03.out (.inr (by omega)))
  have HK4 := Lib.hid (HK3.out.trans hk4)
  have HF4 : Hid (f < v4.heap.size) := heap_lt HQ4.out
  clear hr4 hk4 hcr hN HQ3 HQ03 HR3 HK3
  generalize C4.2 = s4 at HFL HR4
  go_wp2_with fail
  go_loopw [5, 6] (fun i _ wr => ∃ (k : Nat) (mv : Value), k ≤ N ∧ i = .int .i64 k ∧ wr.heap[f]? = some (.cells #[.int .i64 A1.1, .int .i64 A2.1, .bool B3, mv] 45 (0, 0)) ∧ wr.heap[q]? = some (.cells #[.int .i64 0, .int .i64 0, .bool false, .slice none 0 0] 45 (0, 0)) ∧ OwnS mvE 73 4 (f + 1) wr (fun _ => False) mv (Dl.rep Dl.mvR k s4).1 ∧ RS p lo wr L (Dl.rep Dl.mvR k s4).2 ∧ Kp p (p + 1) w wr) (fun i _ _ => N - (intOf i).toNat)
  case atStart => exact ⟨0, _, Nat.zero_le _, rfl, HQ4.out, HQ04.out, OwnS.nil _ _ _ _ _ _, HR4.out, HK4.out⟩
  case round =>
    obtain ⟨k, mv, hk, rfl, hb1, hq1, hown, hr, hkp⟩ := hrel
    have HBk := Lib.hid hb1
    have HQk := Lib.hid hq1
    have HOk := Lib.hid hown
    have HRk := Lib.hid hr
    have HKk := Lib.hid hkp
    have hszf := heap_lt hb1
    have hlen : (Dl.rep Dl.mvR k s4).1.length = k := Dl.rep_len _ _ _
    obtain ⟨od, cd, rfl, _, _, _⟩ := (hown.rd (T := fun _ => True) mvE_good (fun _ _ h => h.elim) (fun _ _ => trivial)).open
    have HLEN := Lib.hid hlen
    rw [hlen] at HBk HOk
    clear hlen hb1 hq1 hown hr hkp
    by_cases hlt : k < N
    · have k1 : (k : Int) < (N : Int) := by omega
      have HSN := Lib.hid (Dl.rep_snoc Dl.mvR k s4)
      generalize Dl.rep Dl.mvR k s4 = nk at *
      obtain ⟨ds, st⟩ := nk
      simp only at HOk HRk HSN HLEN
      have HMV : Hid (Dl.mvR st = (⟨(Ev.i1 st).1, (Ev.i1 (Ev.i1 st).2).1, (Ev.i1 (Ev.i1 (Ev.i1 st).2).2).1, (Ev.i1 (Ev.i1 (Ev.i1 (Ev.i1 st).2).2).2).1⟩, (Ev.i1 (Ev.i1 (Ev.i1 (Ev.i1 st).2).2).2).2)) := rfl
      go_wp2_with fail
      refine (HI.out _ _ HRk.out).mono ?_
      rintro r u1 ⟨rfl, hr1, hk1⟩
      generalize Ev.i1 st = M1 at hr1 HMV ⊢
      have hka : Kp 0 0 u1 (u1.alloc (.cells #[.int .i64 M1.1, .int .i64 0, .int .i64 0, .int .i64 0] 73)) := (Kp.refl _ _ _).alloc _
      have HM1 := Lib.hid (blk_one u1 (.cells #[.int .i64 M1.1, .int .i64 0, .int .i64 0, .int .i64 0] 73))
      have HU1 : Hid (Kp p (p + 1) wr (u1.alloc (.cells #[.int .i64 M1.1, .int .i64 0, .int .i64 0, .int .i64 0] 73))) := hk1.alloc _
      have HRA := Lib.hid (hr1.keep0 hka hlp)
      have HGM : Hid (wr.heap.size ≤ u1.heap.size) := hk1.size
      clear hr1 hk1 hka
      go_upto_region 9 with fail
      generalize u1.alloc (.cells #[.int .i64 M1.1, .int .i64 0, .int .i64 0, .int .i64 0] 73) = x1 at HM1 HU1 HRA ⊢
      generalize hg : u1.heap.size = g at HM1 HGM ⊢
      clear hg
      have hgf : f < g := by have := HGM.out; omega
      go_wp2_with fail
      refine (HI.out _ _ HRA.out).mono ?_
      rintro r u2 ⟨rfl, hr2, hk2⟩
      generalize Ev.i1 M1.2 = M2 at hr2 HMV ⊢
      have hm2 := hk2.heap HM1.out (.inr (by omega))
      have y1 := blk_cell hm2 (k := 1) (u := .int .i64 0) rfl
      have z1 := blk_frozen hm2 1
      have hks := kp_set u2 g 1 (.int .i64 M2.1)
      have HM2 : Hid ((u2.setCell ⟨g, 1, none⟩ (.int .i64 M2.1)).heap[g]? = some (.cells #[.int .i64 M1.1, .int .i64 M2.1, .int .i64 0, .int .i64 0] 73 (0, 0))) := blk_set hm2 1 _
      have HRB := Lib.hid (hr2.keep hks (fun b h1 h2 => .inl (by omega)) hlp)
      have HU2 : Hid (Kp p (p + 1) wr (u2.setCell ⟨g, 1, none⟩ (.int .i64 M2.1))) := (HU1.out.trans hk2).step hks (fun j h1 h2 => .inl (by have := HGM.out; omega))
      clear hr2 hk2 hm2 hks HM1 HRA HU1
      go_wp2_with fail
      generalize u2.setCell ⟨g, 1, none⟩ (.int .i64 M2.1) = x2 at HM2 HRB HU2 ⊢
      clear y1 z1
      refine (HI.out _ _ HRB.out).mono ?_
      rintro r u3 ⟨rfl, hr3, hk3⟩
      generalize Ev.i1 M2.2 = M3 at hr3 HMV ⊢
      have hm3 := hk3.heap HM2.out (.inr (by omega))
      have y1 := blk_cell hm3 (k := 2) (u := .int .i64 0) rfl
      have z1 := blk_frozen hm3 2
      have hks := kp_set u3 g 2 (.int .i64 M3.1)
      have HM3 : Hid ((u3.setCell ⟨g, 2, none⟩ (.int .i64 M3.1)).heap[g]? = some (.cells #[.int .i64 M1.1, .int .i64 M2.1, .int .i64 M3.1, .int .i64 0] 73 (0, 0))) := blk_set hm3 2 _
      have HRC := Lib.hid (hr3.keep hks (fun b h1 h2 => .inl (by omega)) hlp)
      have HU3 : Hid (Kp p (p + 1) wr (u3.setCell ⟨g, 2, none⟩ (.int .i64 M3.1))) := (HU2.out.trans hk3).step hks (fun j h1 h2 => .inl (by have := HGM.out; omega))
      clear hr3 hk3 hm3 hks HM2 HRB HU2
      go_wp2_with fail
      generalize u3.setCell ⟨g, 2, none⟩ (.int .i64 M3.1) = x3 at HM3 HRC HU3 ⊢
      clear y1 z1
      refine (HI.out _ _ HRC.out).mono ?_
      rintro r u4 ⟨rfl, hr4, hk4⟩
      generalize Ev.i1 M3.2 = M4 at hr4 HMV ⊢
      have hm4 := hk4.heap HM3.out (.inr (by omega))
      have y1 := blk_cell hm4 (k := 3) (u := .int .i64 0) rfl
      have z1 := blk_frozen hm4 3
      have hks := kp_set u4 g 3 (.int .i64 M4.1)
      have HM4 : Hid ((u4.setCell ⟨g, 3, none⟩ (.int .i64 M4.1)).heap[g]? = some (.cells #[.int .i64 M1.1, .int .i64 M2.1, .int .i64 M3.1, .int .i64 M4.1] 73 (0, 0))) := blk_set hm4 3 _
      have HRD := Lib.hid (hr4.keep hks (fun b h1 h2 => .inl (by omega)) hlp)
      have HU4 : Hid (Kp p (p + 1) wr (u4.setCell ⟨g, 3, none⟩ (.int .i64 M4.1))) := (HU3.out.trans hk4).step hks (fun j h1 h2 => .inl (by have := HGM.out; omega))
      clear hr4 hk4 hm4 hks HM3 HRC HU3
      go_upto_region 12 with fail
      generalize u4.setCell ⟨g, 3, none⟩ (.int .i64 M4.1) = x4 at HM4 HRD HU4 ⊢
      clear y1 z1
      have HB4 := Lib.hid (HU4.out.heap HBk.out (.inr (by omega)))
      have HQ4' := Lib.hid (HU4.out.heap HQk.out (.inr (by omega)))
      have HO4 := Lib.hid (HOk.out.keep mvE_good HU4.out (fun _ h => h.elim) (fun b hb => by obtain ⟨_, h, _⟩ := HOk.out; have := (ownsRow_lt h b hb).1; omega))
      have m0 := blk_cell HM4.out (k := 0) (u := .int .i64 M1.1) rfl
      have m1 := blk_cell HM4.out (k := 1) (u := .int .i64 M2.1) rfl
      have m2 := blk_cell HM4.out (k := 2) (u := .int .i64 M3.1) rfl
      have m3 := blk_cell HM4.out (k := 3) (u := .int .i64 M4.1) rfl
      have f3 := blk_cell HB4.out (k := 3) (u := .slice od k cd) rfl
      obtain ⟨xs, hrow, hsp, _⟩ := HO4.out.open (n := k) HLEN.out
      have HSP := Lib.hid hsp
      have HROW := Lib.hid hrow
      have HX4 : Hid (f + 1 ≤ x4.heap.size) := heap_lt HB4.out
      obtain ⟨i0, hi, hz0, hz1, hz2⟩ := info_parts info_mv
      clear hsp hrow
      go_wp2_with (at_builtin; refine wpList_append_own _ rfl _ _ 43 rfl (f + 1) 73 i0 (.agg #[.int .i64 0, .int .i64 0, .int .i64 0, .int .i64 0]) 4 32 Try.underlying43 hi hz0 hz1 hz2 rfl (by decide) _ _ _ rfl (HROW.out.alloc _) ⟨x4.heap.size, 0, none⟩ 1 1 [.int .i64 M1.1, .int .i64 M2.1, .int .i64 M3.1, .int .i64 M4.1] rfl rfl (cell_lits _ _ _) (by simp [Value.oneCell']) ?c3 ?c4 ?c5 ?_)
      case c3 => unfold maxLen; omega
      case c4 => omega
      case c5 => have := HX4.out; simp; omega
      intro v5 w5 hown5 hg5 _
      obtain ⟨g5, c5, rfl, hg51, hg52⟩ := own_some hown5 (by omega)
      have hkx : Kp (f + 1) x4.heap.size x4 w5 := ((Kp.refl _ _ _).alloc _).grown hg5 fun j hj => .inr (ownsRow_lt HROW.out j hj)
      have hO5 := OwnS.flat (x := (⟨M1.1, M2.1, M3.1, M4.1⟩ : Mv)) HSP.out hown5 HLEN.out rfl (fun h => h) rfl
      have hb5 := hkx.heap HB4.out (.inl (Nat.lt_succ_self _))
      have hq5 := hkx.heap HQ4'.out (.inl (by omega))
      have hr5 := HRD.out.keep hkx (fun b h1 h2 => .inl (by omega)) hlp
      have hk5 : Kp p (p + 1) w w5 := (HKk.out.trans HU4.out).step hkx (fun j h1 h2 => .inl (by have := HQE.out; omega))
      have y3 := blk_cell hb5 (k := 3) (u := .slice od k cd) rfl
      have z3 := blk_frozen hb5 3
      have hks := kp_set w5 f 3 (.slice (some ⟨g5, 0, none⟩) (k + 1) c5)
      have HB6 : Hid ((w5.setCell ⟨f, 3, none⟩ (.slice (some ⟨g5, 0, none⟩) (k + 1) c5)).heap[f]? = some (.cells #[.int .i64 A1.1, .int .i64 A2.1, .bool B3, .slice (some ⟨g5, 0, none⟩) (k + 1) c5] 45 (0, 0))) := blk_set hb5 3 _
      have HQ6 := Lib.hid (hks.heap hq5 (.inl hqf))
      have HR6 := Lib.hid (hr5.keep hks (fun b h1 h2 => .inl (by omega)) hlp)
      have HO6 := Lib.hid (hO5.keep mvE_good hks (fun _ h => h.elim) (fun b hb => by obtain ⟨_, h, _⟩ := hO5; have := (ownsRow_lt h b hb).1; omega))
      have HK6 : Hid (Kp p (p + 1) w (w5.setCell ⟨f, 3, none⟩ (.slice (some ⟨g5, 0, none⟩) (k + 1) c5))) := hk5.step hks (fun j h1 h2 => .inl (by have := HQE.out; omega))
      have HSE : Hid ((Dl.rep Dl.mvR (k + 1) s4).1 = ds ++ [⟨M1.1, M2.1, M3.1, M4.1⟩] ∧ (Dl.rep Dl.mvR (k + 1) s4).2 = M4.2) := by
        rw [HMV.out] at HSN
        exact ⟨by rw [HSN.out], by rw [HSN.out]⟩
      clear hown5 hg5 hkx hO5 hb5 hq5 hr5 hk5 hks m0 m1 m2 m3 f3 HSN HMV
      go_wp2_with fail
      go_roundw
      case rel => exact ⟨k + 1, _, by omega, by go_num, HB6.out, HQ6.out, by rw [HSE.out.1]; exact HO6.out, by rw [HSE.out.2]; exact HR6.out, HK6.out⟩
      case measure => simp [intOf]; omega
    · obtain rfl : k = N := by omega
      have k1 : ¬ (k : Int) < (k : Int) := by omega
      generalize Dl.rep Dl.mvR k s4 = nk at *
      obtain ⟨ds, st⟩ := nk
      simp only at HOk HRk HLEN HFL
      have b0 := blk_cell HBk.out (k := 0) (u := .int .i64 A1.1) rfl
      have b1 := blk_cell HBk.out (k := 1) (u := .int .i64 A2.1) rfl
      have b2 := blk_cell HBk.out (k := 2) (u := .bool B3) rfl
      have b3 := blk_cell HBk.out (k := 3) (u := .slice od k cd) rfl
      have a0 := blk_cell HQk.out (k := 0) (u := .int .i64 0) rfl
      have a1 := blk_cell HQk.out (k := 1) (u := .int .i64 0) rfl
      have a2 := blk_cell HQk.out (k := 2) (u := .bool false) rfl
      have a3 := blk_cell HQk.out (k := 3) (u := .slice none 0 0) rfl
      have z0 := blk_frozen HQk.out 0
      have z1 := blk_frozen HQk.out 1
      have z2 := blk_frozen HQk.out 2
      have z3 := blk_frozen HQk.out 3
      have HST := Lib.hid (store_four HQk.out rfl (.int .i64 A1.1) (.int .i64 A2.1) (.bool B3) (.slice od k cd))
      go_wp2_with fail
      obtain ⟨hst, hsk⟩ := HST.out
      generalize ((((wr.setCell ⟨q, 0, none⟩ (.int .i64 A1.1)).setCell ⟨q, 1, none⟩ (.int .i64 A2.1)).setCell ⟨q, 2, none⟩ (.bool B3)).setCell ⟨q, 3, none⟩ (.slice od k cd)) = wu at *
      have c0 := blk_cell hst (k := 0) (u := .int .i64 A1.1) rfl
      have c1 := blk_cell hst (k := 1) (u := .int .i64 A2.1) rfl
      have c2 := blk_cell hst (k := 2) (u := .bool B3) rfl
      have c3 := blk_cell hst (k := 3) (u := .slice od k cd) rfl
      try simp only [Exit.inBlock, Exit.then]
      refine bodyPost_ret (by simp [results, Try.results35, go_sem, c0, c1, c2, c3]; try rfl) rfl ?_
      rw [HFL.out]
      dsimp only
      have hO := HOk.out.keep mvE_good hsk (fun _ h => h.elim) (fun b hb => by obtain ⟨_, h, _⟩ := HOk.out; have := (ownsRow_lt h b hb).1; omega)
      exact ⟨_, rfl, hO.below (by have := HQE.out; omega), HRk.out.keep hsk (fun b h1 h2 => .inl (by omega)) hlp, HKk.out.step hsk (fun j h1 h2 => .inl (by have := HQE.out; omega))⟩

end Go.Proofs.Ytgokhagbknlfaaa
