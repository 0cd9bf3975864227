/-
  The landed Scan keeps the document.
-/
import Derived.Test.YtpdkfafnffihjaaDoorFOk
namespace Go.Proofs.YtpdkfafnffihjaaDoor
open Go.RowKit

set_option maxRecDepth 100000 in
set_option maxHeartbeats 1000000 in
theorem scanOk : ScanOk := by
  intro l1 h1 l w v hl rb hn ht
  have HT := Lib.hid ht
  clear ht
  have HL := Lib.hid hl
  obtain ⟨ao, c, rfl, hb1, hb2, _⟩ := hl.open
  rw [ints_len] at hb1 HL ⊢
  have RB := Lib.hid rb
  obtain ⟨i0, hi, hz0, hz1, hz2⟩ := info_parts info_frame
  clear hl rb
  go_enter Tryd.func18, Tryd.ntmps18
  go_wp2_with fail
  go_loopw [4, 5] (fun v' i wr => ∃ (m : Nat) (fs : List (Nat × List Nat)) (vs : List Value), i = .int .i64 m ∧ m ≤ l.length ∧ vs.length = fs.length ∧ fs.length ≤ m ∧ wr.ownsRow w.heap.size 24 2 v' fs.length (frCells fs vs) ∧ Hid (∀ i, i < fs.length → OwnI .u8 5 w.heap.size wr.heap.size wr (vs.getD i undef) (ints (fs.getD i (0, [])).2)) ∧ Hid (Fr.scan l = (fs ++ (Fr.scan (l.drop m)).1, m + (Fr.scan (l.drop m)).2)) ∧ Kp 0 0 w wr) (fun _ i _ => l.length - (intOf i).toNat)
  case atStart => exact ⟨0, [], [], rfl, Nat.zero_le _, rfl, Nat.le_refl _, World.ownsRow_nil _ _ _ _, fun i hi => by simp at hi, by show _ = _; simp, Kp.refl _ _ _⟩
  case round =>
    obtain ⟨m, fs, vs, rfl, hm, hvs, hfm, hown, HOB, HSC, hkp⟩ := hrel
    have HOWN := Lib.hid hown
    have HKP := Lib.hid hkp
    have m0 : (0 : Int) ≤ (m : Int) := Int.natCast_nonneg _
    have m1 : (m : Int) ≤ (l.length : Int) := by omega
    have HRD : Hid (RdI .u8 l1 h1 wr (.slice (if c = m then ao else Option.map (fun x => x.add m) ao) (l.length - m) (c - m)) (ints (l.drop m))) := by
      have h := HL.out
      rw [← ints_len l] at h
      have h2 := (h.keep0 hkp).suf2 (n := m) (by rw [ints_len]; exact hm)
      have e2 : (ints l).drop m = ints (l.drop m) := by unfold ints; rw [List.map_drop]
      rw [e2, ints_len] at h2
      exact h2
    have HBD : Hid (∀ x ∈ l.drop m, x < 256) := fun x hx => RB.out x (List.mem_of_mem_drop hx)
    have HGET := Lib.hid (getOk _ _ (l.drop m) wr _ HRD.out HBD.out (HT.out.keep HKP.out))
    have HST : Hid ((Fr.get (l.drop m)).2.2.2 ≠ 0 → Fr.scan (l.drop m) = ([], 0)) := Fr.scan_stop
    have HMO : Hid ((Fr.get (l.drop m)).2.2.2 = 0 → Fr.scan (l.drop m) = (((Fr.get (l.drop m)).1, (Fr.get (l.drop m)).2.1) :: (Fr.scan (l.drop (m + (Fr.get (l.drop m)).2.2.1))).1, (Fr.get (l.drop m)).2.2.1 + (Fr.scan (l.drop (m + (Fr.get (l.drop m)).2.2.1))).2)) := fun h => by
      have := Fr.scan_more h
      rwa [List.drop_drop] at this
    have HLE : Hid ((Fr.get (l.drop m)).2.2.2 = 0 → 9 ≤ (Fr.get (l.drop m)).2.2.1 ∧ m + (Fr.get (l.drop m)).2.2.1 ≤ l.length) := fun h => by
      obtain ⟨_, _, _, h4, _, hg⟩ := Fr.get_ok h
      have hn : (Fr.get (l.drop m)).2.2.1 = Fr.blen (l.drop m) + 9 := by rw [hg]
      rw [List.length_drop] at h4
      rw [hn]
      omega
    generalize Fr.get (l.drop m) = r at HGET HST HMO HLE
    obtain ⟨rk, rb, rn, re⟩ := r
    simp only at HST HMO HLE
    clear hown hkp
    by_cases hcm : c = m
    · rw [if_pos hcm, show c - m = 0 by omega] at HGET
      go_wp2_with fail
      refine HGET.out.mono ?_
      rintro e w2 ⟨vb, rfl, hvb, hk⟩
      obtain ⟨aob, cb, rfl, _, _, _⟩ := hvb.rd.open
      have HVB := Lib.hid hvb
      have HK2 := Lib.hid (HKP.out.trans hk)
      have HKR := Lib.hid hk
      clear hvb hk
      by_cases he : re = 0
      · exfalso
        have := HLE.out he
        omega
      · have hne : (re != 0) = true := bne_iff_ne.2 he
        have HP : Hid (Fr.scan l = (fs, m)) := by
          show _ = _
          rw [HSC.out, HST.out he]
          simp
        go_wp2_with fail
        have HKX : Hid (Kp 0 0 wr (w2.alloc (.cells #[.int .i64 (rk : Int), .slice aob (ints rb).length cb] 24))) := HKR.out.alloc _
        go_returns
        rw [HP.out]
        refine ⟨_, rfl, ⟨vs, hvs, ownsRow_keep HOWN.out HKX.out (fun _ _ => .inr (Nat.zero_le _)), fun k hk => ?_, fun i hi => ?_⟩, HK2.out.alloc _⟩
        · have := (HOWN.out.lt k hk).2
          have := HKX.out.size
          omega
        · exact ((HOB.out i hi).keep0 HKX.out).wide (Nat.le_refl _) HKX.out.size
    · rw [if_neg hcm] at HGET
      go_wp2_with fail
      refine HGET.out.mono ?_
      rintro e w2 ⟨vb, rfl, hvb, hk⟩
      obtain ⟨aob, cb, rfl, _, _, _⟩ := hvb.rd.open
      have HVB := Lib.hid hvb
      have HK2 := Lib.hid (HKP.out.trans hk)
      have HKR := Lib.hid hk
      clear hvb hk
      by_cases he : re = 0
      · subst he
        obtain ⟨hn9, hmn⟩ := HLE.out rfl
        have HSC2 : Hid (Fr.scan l = ((fs ++ [(rk, rb)]) ++ (Fr.scan (l.drop (m + rn))).1, (m + rn) + (Fr.scan (l.drop (m + rn))).2)) := by
          show _ = _
          rw [HSC.out, HMO.out rfl]
          simp [Nat.add_assoc]
        have hW : (w2.alloc (.cells #[.int .i64 (rk : Int), .slice aob (ints rb).length cb] 24)).heap.size = w2.heap.size + 1 := by simp
        have C2 := cell_two (w2.alloc (.cells #[.int .i64 (rk : Int), .slice aob (ints rb).length cb] 24)) (.int .i64 (rk : Int)) (.slice aob (ints rb).length cb) 24
        rw [hW] at C2
        have HRW : Hid (((w2.alloc (.cells #[.int .i64 (rk : Int), .slice aob (ints rb).length cb] 24)).alloc (.cells #[.int .i64 (rk : Int), .slice aob (ints rb).length cb] 24)).ownsRow w.heap.size 24 2 u4 fs.length (frCells fs vs)) := ((ownsRow_keep HOWN.out HKR.out (fun _ _ => .inr (Nat.zero_le _))).alloc _).alloc _
        have HKA : Hid (Kp 0 0 wr ((w2.alloc (.cells #[.int .i64 (rk : Int), .slice aob (ints rb).length cb] 24)).alloc (.cells #[.int .i64 (rk : Int), .slice aob (ints rb).length cb] 24))) := (HKR.out.alloc _).alloc _
        have HKB : Hid (Kp 0 0 w2 ((w2.alloc (.cells #[.int .i64 (rk : Int), .slice aob (ints rb).length cb] 24)).alloc (.cells #[.int .i64 (rk : Int), .slice aob (ints rb).length cb] 24))) := ((Kp.refl _ _ _).alloc _).alloc _
        have hsz := HKP.out.size
        have hsz2 := HKR.out.size
        clear hW
        go_wp2_with (at_builtin; refine wpList_append_own _ rfl _ _ 35 rfl w.heap.size 24 i0 (.agg #[.int .i64 0, .slice none 0 0]) 2 32 Tryd.underlying35 hi hz0 hz1 hz2 rfl (by decide) _ _ _ rfl HRW.out ⟨w2.heap.size + 1, 0, none⟩ 1 1 [.int .i64 (rk : Int), .slice aob (ints rb).length cb] rfl rfl C2 ?c1 ?c3 ?c4 ?c5 ?_)
        case c1 => simp [Value.oneCell']
        case c3 => unfold maxLen; omega
        case c4 => omega
        case c5 => simp; omega
        intro v' w4 hown' hg _
        have HK4 : Hid (Kp 0 0 w w4) := (HKP.out.trans HKA.out).grown hg fun j hj => .inl ((HRW.out.lt j hj).1)
        have HOB2 : Hid (∀ i, i < (fs ++ [(rk, rb)]).length → OwnI .u8 5 w.heap.size w4.heap.size w4 ((vs ++ [Value.slice aob (ints rb).length cb]).getD i undef) (ints ((fs ++ [(rk, rb)]).getD i (0, [])).2)) := fun i hi => by
          have hbl := ownsRow_block HRW.out
          rw [List.length_append] at hi
          by_cases hif : i < fs.length
          · have e1 : (vs ++ [Value.slice aob (ints rb).length cb]).getD i undef = vs.getD i undef := by
              have : i < vs.length := by omega
              simp [List.getD, List.getElem?_append_left this]
            have e2 : (fs ++ [(rk, rb)]).getD i (0, []) = fs.getD i (0, []) := by simp [List.getD, List.getElem?_append_left hif]
            rw [e1, e2]
            exact (((HOB.out i hif).keep0 HKA.out).grown hg hbl (by decide)).there
          · have hi2 : i = fs.length := by simp at hi; omega
            subst hi2
            have e1 : (vs ++ [Value.slice aob (ints rb).length cb]).getD fs.length undef = Value.slice aob (ints rb).length cb := by
              rw [← hvs]
              simp [List.getD]
            have e2 : (fs ++ [(rk, rb)]).getD fs.length (0, []) = (rk, rb) := by simp [List.getD]
            rw [e1, e2]
            exact ((((HVB.out.keep0 HKB.out).grown hg hbl (by decide)).wide HKP.out.size (Nat.le_refl _))).there
        have HRW2 : Hid (w4.ownsRow w.heap.size 24 2 v' (fs ++ [(rk, rb)]).length (frCells (fs ++ [(rk, rb)]) (vs ++ [.slice aob (ints rb).length cb]))) := by
          show World.ownsRow _ _ _ _ _ _ _
          rw [frCells_snoc fs vs _ _ hvs, List.length_append]
          exact hown'
        clear hown' hg C2
        go_wp2_with fail
        go_roundw
        case rel => exact ⟨m + rn, fs ++ [(rk, rb)], vs ++ [Value.slice aob (ints rb).length cb], by go_num, hmn, by rw [List.length_append, List.length_append, hvs]; rfl, by rw [List.length_append]; simp; omega, HRW2.out, HOB2, HSC2, HK4.out⟩
        case measure => simp [intOf]; omega
      · have hne : (re != 0) = true := bne_iff_ne.2 he
        have HP : Hid (Fr.scan l = (fs, m)) := by
          show _ = _
          rw [HSC.out, HST.out he]
          simp
        go_wp2_with fail
        have HKX : Hid (Kp 0 0 wr (w2.alloc (.cells #[.int .i64 (rk : Int), .slice aob (ints rb).length cb] 24))) := HKR.out.alloc _
        go_returns
        rw [HP.out]
        refine ⟨_, rfl, ⟨vs, hvs, ownsRow_keep HOWN.out HKX.out (fun _ _ => .inr (Nat.zero_le _)), fun k hk => ?_, fun i hi => ?_⟩, HK2.out.alloc _⟩
        · have := (HOWN.out.lt k hk).2
          have := HKX.out.size
          omega
        · exact ((HOB.out i hi).keep0 HKX.out).wide (Nat.le_refl _) HKX.out.size

end Go.Proofs.YtpdkfafnffihjaaDoor
