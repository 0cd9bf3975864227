/-
  FrameWhole as a contract, where Put, Get and Scan keep the document.
-/
import Derived.Test.YtpdkfafnffihjaaDoorRowF
import Derived.Test.YtpdkfafnffihjaaDoorSameF
import Derived.Test.YtpdkfafnffihjaaDoorPick
namespace Go.Proofs.YtpdkfafnffihjaaDoor
open Go.RowKit

theorem RdF.pre {lo hi : Nat} {w : World} {ao : Option Addr} {c : Nat} {fs : List (Int × List Nat)} (h : RdF lo hi w (.slice ao fs.length c) fs) {n : Nat} (hn : n ≤ fs.length) : RdF lo hi w (.slice ao n c) (fs.take n) := by
  obtain ⟨ao', c', he, h1, h2, h3⟩ := h
  simp only [Value.slice.injEq] at he
  obtain ⟨rfl, _, rfl⟩ := he
  have hl : (fs.take n).length = n := by rw [List.length_take]; omega
  refine ⟨ao, c, by rw [hl], by omega, h2, fun h0 => ?_⟩
  rw [hl] at h0 ⊢
  obtain ⟨g, o, e, hg1, hg2, hc⟩ := h3 (by omega)
  refine ⟨g, o, e, hg1, hg2, fun i hi => ?_⟩
  have e2 : (fs.take n).getD i (0, []) = fs.getD i (0, []) := by simp [List.getD, hi]
  rw [e2]
  exact hc i (by omega)

theorem asF_take (gs : List (Nat × List Nat)) (n : Nat) : asF (gs.take n) = (asF gs).take n := List.map_take ..

set_option maxRecDepth 100000 in
set_option maxHeartbeats 2000000 in
theorem whole_any {h1 : Nat} (HP : PutOk) (HG : GetOk) (HS : ScanOk) (fs : List (Int × List Nat)) (at0 : Int) (w : World) (v : Value) (t1 : -9223372036854775808 ≤ at0) (t2 : at0 ≤ 9223372036854775807) (hr : RdF 0 h1 w v fs) (rb : ∀ f ∈ fs, ∀ x ∈ f.2, x < 256) (hw : h1 ≤ w.heap.size) (ht : Tabs w) :
    Calls Tryd.prog 5 #[v, .int .i64 at0] w fun e w' => e = .returned (.bool true) ∧ Kp 0 0 w w' := by
  have HR := Lib.hid hr
  have RB := Lib.hid rb
  have HT := Lib.hid ht
  have HW := Lib.hid hw
  clear hr rb ht hw
  go_enter Tryd.func5, Tryd.ntmps5
  go_wp2_with fail
  refine (right_any fs _ _ HR.out RB.out HW.out).mono ?_
  rintro e w1 ⟨v1, gs, rfl, hrd, h20, hgd, hk⟩
  have HRD := Lib.hid hrd
  obtain ⟨ao1, cc1, rfl, hq1, hq2, _⟩ := hrd
  rw [asF_len] at HRD hq1 ⊢
  have HGD := Lib.hid hgd
  have HK1 := Lib.hid hk
  clear hk hgd
  go_wp2_with fail
  refine (row_any HP gs _ _ HRD.out HGD.out h20 (HT.out.keep HK1.out)).mono ?_
  rintro e w2 ⟨vb, ve, rfl, hB, hE, hk⟩
  obtain ⟨ab, cb, rfl, hb1, hb2, _⟩ := hB.rd.open
  obtain ⟨ae, ce, rfl, he1, he2, he3⟩ := hE.rd.open
  have HB := Lib.hid hB.rd
  have HE := Lib.hid he3
  have HK2 := Lib.hid (HK1.out.trans hk)
  have HRD2 := Lib.hid (HRD.out.keep0 hk)
  have hLE := HGD.out.rows_le h20 gs.length
  rw [List.take_length] at hLE
  have HBY : Hid (∀ x ∈ Fr.rows gs, x < 256) := Fr.rows_byte gs fun f hf => by
    obtain ⟨_, g2, g3, g4⟩ := HGD.out f hf
    exact ⟨by omega, by omega, g4⟩
  have HNZ : Hid (∀ f ∈ gs, f.1 ≠ 0 ∧ f.2.length ≤ 65536) := fun f hf => by
    obtain ⟨g1, _, g3, _⟩ := HGD.out f hf
    exact ⟨by omega, by omega⟩
  have HEN : Hid (∀ j, j < gs.length → (endsN gs gs.length).getD j 0 = ((Fr.rows (gs.take (j + 1))).length : Int)) := fun j hj => endsN_get gs hj
  have HLL : Hid ((Fr.rows (gs.take gs.length)).length = (Fr.rows gs).length) := by show _ = _; rw [List.take_length]
  clear hB hE hk he3
  rw [endsN_len] at he1 ⊢
  rw [ints_len] at hb1 HB ⊢
  generalize hL : (Fr.rows gs).length = L at *
  go_wp2_with fail
  refine (pick_any at0 ((L : Int) + 1) _ t1 t2 (by omega)).mono ?_
  rintro e w3 ⟨rfl, rfl⟩
  have hp := pick_range (k := at0) (n := (L : Int) + 1) (by omega)
  generalize pick at0 ((L : Int) + 1) = m at hp ⊢
  obtain ⟨M, rfl⟩ := Int.eq_ofNat_of_zero_le hp.1
  have hM : M ≤ L := by omega
  clear hp
  have hMc : (M : Int) ≤ (cb : Int) := by omega
  go_wp2_with fail
  go_loopw [7, 8] (fun n k wr => ∃ (j K : Nat), n = .int .i64 j ∧ k = .int .i64 K ∧ j ≤ gs.length ∧ Hid ((Fr.rows (gs.take j)).length = K) ∧ K ≤ M ∧ Kp 0 0 w2 wr) (fun n _ _ => gs.length - (intOf n).toNat)
  case atStart => exact ⟨0, 0, rfl, rfl, Nat.zero_le _, by show _ = _; simp [Fr.rows], Nat.zero_le _, Kp.refl _ _ _⟩
  case round =>
    obtain ⟨j, K, rfl, rfl, hj, HJ, hKM, hkp⟩ := hrel
    have HKP := Lib.hid hkp
    have hKMi : (K : Int) ≤ (M : Int) := by omega
    have hji : (j : Int) ≤ (cc1 : Int) := by omega
    generalize hE1 : (Fr.rows (gs.take (j + 1))).length = E1 at *
    have HE1 := Lib.hid hE1
    clear hE1
    by_cases hgo : j < gs.length ∧ E1 ≤ M
    · obtain ⟨hlt, hle⟩ := hgo
      obtain ⟨g, o, rfl, _, _, hc⟩ := HE.out (by rw [endsN_len]; omega)
      have c1 := hc j (by rw [endsN_len]; omega)
      rw [HEN.out j hlt, HE1.out] at c1
      have c1 := hkp.cell c1 (.inr (Nat.zero_le _))
      clear hc hkp
      go_wp2_with fail
      go_roundw
      case rel => exact ⟨j + 1, E1, by go_num, rfl, by omega, HE1, hle, HKP.out⟩
      case measure => simp [intOf]; omega
    · have HCUT : Hid (j < gs.length → M < (Fr.rows (gs.take (j + 1))).length) := fun h => by rw [HE1.out]; omega
      have HSC : Hid (Fr.scan ((Fr.rows gs).take M) = (gs.take j, K) ∧ Fr.get (((Fr.rows gs).take M).drop K) = (0, [], 0, 4)) := by
        have h := Fr.scan_cut gs j M HNZ.out hj (by omega) (by rw [HJ.out]; exact hKM) HCUT.out
        rw [HJ.out] at h
        exact h
      have HPRE : Hid (RdI .u8 0 w2.heap.size wr (.slice ab M cb) (ints ((Fr.rows gs).take M))) := by
        have h := HB.out
        rw [← hL, ← ints_len (Fr.rows gs)] at h
        have h2 := (h.pre (n := M) (by rw [ints_len]; omega)).wide (lo' := 0) (hi' := w2.heap.size) (Nat.zero_le _) (Nat.le_refl _)
        have e : (ints (Fr.rows gs)).take M = ints ((Fr.rows gs).take M) := by unfold ints; rw [List.map_take]
        rw [e] at h2
        exact h2.keep0 hkp
      have HTL : Hid (((Fr.rows gs).take M).length = M) := by show _ = _; rw [List.length_take]; omega
      have HSUF : Hid (RdI .u8 0 w2.heap.size wr (.slice (if cb = K then ab else Option.map (fun x => x.add K) ab) (M - K) (cb - K)) (ints (((Fr.rows gs).take M).drop K))) := by
        have h := HPRE.out
        rw [← HTL.out, ← ints_len ((Fr.rows gs).take M)] at h
        rw [ints_len, HTL.out] at h
        have h2 := RdI.suf2 (l := ints ((Fr.rows gs).take M)) (n := K) (by rw [ints_len, HTL.out]; exact h) (by rw [ints_len, HTL.out]; exact hKM)
        have e : (ints ((Fr.rows gs).take M)).drop K = ints (((Fr.rows gs).take M).drop K) := by unfold ints; rw [List.map_drop]
        rw [e, ints_len, HTL.out] at h2
        exact h2
      have HBT : Hid (∀ x ∈ (Fr.rows gs).take M, x < 256) := fun x hx => HBY.out x (List.mem_of_mem_take hx)
      have HBD : Hid (∀ x ∈ ((Fr.rows gs).take M).drop K, x < 256) := fun x hx => HBT.out x (List.mem_of_mem_drop hx)
      have HPF : Hid (RdF 0 w1.heap.size wr (.slice ao1 j cc1) (asF (gs.take j))) := by
        have h := HRD2.out
        rw [← asF_len gs] at h
        rw [asF_take]
        exact (h.pre (n := j) (by rw [asF_len]; exact hj)).keep0 hkp
      have HKW := Lib.hid (HK2.out.trans hkp)
      clear hkp hL
      generalize (Fr.rows gs).take M = S at *
      generalize hD : S.drop K = D at *
      generalize gs.take j = G at *
      clear hD
      by_cases hlt : j < gs.length
      all_goals
        first
        | (obtain ⟨g, o, rfl, _, _, hc⟩ := HE.out (by rw [endsN_len]; omega)
           have c1 := hc j (by rw [endsN_len]; omega)
           rw [HEN.out j hlt, HE1.out] at c1
           have c1 := HKP.out.cell c1 (.inr (Nat.zero_le _))
           have hme : ¬ ((E1 : Int) ≤ (M : Int)) := by omega
           clear hc)
        | skip
        go_wp2_with fail
        have hs := HS _ _ S _ _ HPRE.out HBT.out (by rw [HTL.out]; omega) (HT.out.keep HKW.out)
        rw [HSC.out.1] at hs
        refine hs.mono ?_
        clear hs
        rintro e w4 ⟨vx, rfl, hown, hk⟩
        have HX := Lib.hid hown.rd
        have HK4 := Lib.hid (HKW.out.trans hk)
        have HPF4 := Lib.hid (HPF.out.keep0 hk)
        have HSUF4 := Lib.hid (HSUF.out.keep0 hk)
        clear hown hk
        have hKK : ((K : Int) != (K : Int)) = false := by simp
        go_wp2_with fail
        refine (same_frames _ _ _ (asF G) HX.out HPF4.out).mono ?_
        rintro e w5 ⟨rfl, hk⟩
        have HK5 := Lib.hid (HK4.out.trans hk)
        have HSUF5 := Lib.hid (HSUF4.out.keep0 hk)
        clear hk
        by_cases hck : cb = K
        all_goals
          first
          | rw [if_pos hck, show cb - K = 0 by omega] at HSUF5
          | rw [if_neg hck] at HSUF5
          go_wp2_with fail
          have hget := HG _ _ D _ _ HSUF5.out HBD.out (HT.out.keep HK5.out)
          rw [HSC.out.2] at hget
          refine hget.mono ?_
          clear hget
          rintro e w6 ⟨vg, rfl, hown, hk⟩
          obtain ⟨ag, cg, rfl, _, _, _⟩ := hown.rd.open
          rw [show (ints ([] : List Nat)).length = 0 from rfl]
          have HK6 := Lib.hid (HK5.out.trans hk)
          clear hown hk
          go_wp2_with fail
          refine (shown_any HP HG _ (HT.out.keep (HK6.out.alloc _))).mono ?_
          rintro e w7 ⟨rfl, hk⟩
          go_wp2_with fail
          go_returns
          exact ⟨rfl, (HK6.out.alloc _).trans hk⟩

end Go.Proofs.YtpdkfafnffihjaaDoor
