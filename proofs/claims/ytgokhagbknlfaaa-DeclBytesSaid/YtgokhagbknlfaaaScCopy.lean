/-
  CopyDecl: the same declarations, in memory of the call's own.
-/
import Derived.Test.YtgokhagbknlfaaaScOwn
import Derived.Deep.RegionHeld3
import Derived.Deep.RegionLaw
namespace Go.Proofs.Ytgokhagbknlfaaa
open Go.RowKit

theorem info_fl : (Try.prog.info? 45).map (fun i => (i.zero, i.size, i.bytes)) = some (some (.agg #[.int .i64 0, .int .i64 0, .bool false, .slice none 0 0]), 4, 48) := by kernel_rfl
theorem info_ty : (Try.prog.info? 42).map (fun i => (i.zero, i.size, i.bytes)) = some (some (.agg #[.slice none 0 0]), 1, 24) := by kernel_rfl
theorem info_pj : (Try.prog.info? 51).map (fun i => (i.zero, i.size, i.bytes)) = some (some (.agg #[.int .i64 0, .int .i64 0, .int .i64 0, .int .i64 0, .int .i64 0]), 5, 40) := by kernel_rfl

set_option maxRecDepth 100000 in
set_option maxHeartbeats 8000000 in
theorem copyD_any {S : Nat → Prop} (d : Dc) (w : World) (tv pv : Value) (hd : RdD w S tv pv d) (hs : Sc.Short d) :
    Calls Try.prog 9 #[.agg #[tv, pv]] w fun r w' => ∃ tv' pv', r = .returned (.agg #[tv', pv']) ∧ OwnD w.heap.size w' tv' pv' d ∧ Kp 0 0 w w' := by
  obtain ⟨to, tc, rfl, ht1, ht2, htc⟩ := hd.t.open
  obtain ⟨po, pc, rfl, hp1, hp2, hpc⟩ := hd.p.open
  obtain ⟨hs1, hs2, hs3⟩ := hs
  have HTC := Lib.hid htc
  have HPC := Lib.hid hpc
  have HS3 := Lib.hid hs3
  clear hd htc hpc hs3
  have HW3 : Hid (Kp 0 0 w (((w.alloc (.cells #[.slice to d.ts.length tc, .slice po d.ps.length pc] 25)).alloc (.cells #[.slice none 0 0, .slice none 0 0] 25)).alloc (.cells #[.slice none 0 0, .slice none 0 0] 25))) := (((Kp.refl _ _ _).alloc _).alloc _).alloc _
  have HQ0 := Lib.hid (blk_old (blk_old (blk_one w (.cells #[.slice to d.ts.length tc, .slice po d.ps.length pc] 25)) (.cells #[.slice none 0 0, .slice none 0 0] 25)) (.cells #[.slice none 0 0, .slice none 0 0] 25))
  have HQ1 := Lib.hid (blk_old (blk_two w (.cells #[.slice to d.ts.length tc, .slice po d.ps.length pc] 25) (.cells #[.slice none 0 0, .slice none 0 0] 25)) (.cells #[.slice none 0 0, .slice none 0 0] 25))
  have HQ2 := Lib.hid (blk_three w (.cells #[.slice to d.ts.length tc, .slice po d.ps.length pc] 25) (.cells #[.slice none 0 0, .slice none 0 0] 25) (.cells #[.slice none 0 0, .slice none 0 0] 25))
  go_enter Try.func9, Try.ntmps9
  go_wp2_with fail
  generalize ((w.alloc (.cells #[.slice to d.ts.length tc, .slice po d.ps.length pc] 25)).alloc (.cells #[.slice none 0 0, .slice none 0 0] 25)).alloc (.cells #[.slice none 0 0, .slice none 0 0] 25) = w3 at HW3 HQ0 HQ1 HQ2 ⊢
  have HQS : Hid (w.heap.size + 1 + 1 < w3.heap.size) := heap_lt HQ2.out
  generalize hq2 : w.heap.size + 1 + 1 = q2 at HQ2 HQS ⊢
  generalize hq1 : w.heap.size + 1 = q1 at HQ1 ⊢
  generalize hq0 : w.heap.size = q0 at HQ0 ⊢
  have HQE : Hid (w.heap.size = q0 ∧ q0 + 1 = q1 ∧ q1 + 1 = q2) := ⟨by omega, by omega, by omega⟩
  clear hq0 hq1 hq2
  have HT3 := Lib.hid (HTC.out.keep0 tyE_good HW3.out)
  have HP3 := Lib.hid (HPC.out.keep0 pjE_good HW3.out)
  obtain ⟨tif, hi1, hy0, hy1, hy2⟩ := info_parts info_fl
  obtain ⟨tit, hi2, hu0, hu1, hu2⟩ := info_parts info_ty
  obtain ⟨tip, hi3, hv0, hv1, hv2⟩ := info_parts info_pj
  go_loopw [4, 5, 6] (fun i _ _ wr => ∃ (k : Nat) (tv' : Value), k ≤ d.ts.length ∧ i = .int .i64 k ∧ wr.heap[q2]? = some (.cells #[tv', .slice none 0 0] 25 (0, 0)) ∧ OwnTs w3.heap.size wr tv' (d.ts.take k) ∧ Kp q2 (q2 + 1) w3 wr) (fun i _ _ _ => d.ts.length - (intOf i).toNat)
  case atStart => exact ⟨0, _, Nat.zero_le _, rfl, HQ2.out, OwnTs.nil _ _, Kp.refl _ _ _⟩
  case round =>
    obtain ⟨i, tv', hi, rfl, hq2, hots, hkp⟩ := hrel
    have HKR := Lib.hid hkp
    have hq0 := hkp.heap HQ0.out (.inl (by have := HQE.out; omega))
    have HKW : Hid (Kp 0 0 w wr) := HW3.out.step hkp (fun j h1 h2 => .inl (by have := HQE.out; omega))
    have q00 := blk_cell hq0 (k := 0) (u := .slice to d.ts.length tc) rfl
    by_cases hlt : i < d.ts.length
    · obtain ⟨T, hT⟩ : ∃ T, d.ts[i]? = some T := ⟨_, List.getElem?_eq_getElem hlt⟩
      obtain ⟨b, o, fo, fc, rfl, hb, c1, hf1, hf2, hf⟩ := ty_at HTC.out hT
      have HC1 := Lib.hid (HKW.out.cell c1 (.inr (Nat.zero_le _)))
      have HF := Lib.hid (hf.keep0 flE_good HKW.out)
      have HTI := Lib.hid hT
      have HTL := Lib.hid (HS3.out T (List.mem_of_getElem? hT))
      have HOT := Lib.hid hots
      have HQ2R := Lib.hid hq2
      have HQ0R := Lib.hid hq0
      clear hf hT hkp c1 hots hq2 hq0
      have i0 : (0 : Int) ≤ (i : Int) := Int.natCast_nonneg _
      have i1 : (i : Int) < (d.ts.length : Int) := by omega
      have HKI : Hid (Kp 0 0 wr (wr.alloc (.cells #[.slice none 0 0] 42))) := (Kp.refl _ _ _).alloc _
      have HPT := Lib.hid (blk_one wr (.cells #[.slice none 0 0] 42))
      go_wp2_with fail
      generalize wr.alloc (.cells #[.slice none 0 0] 42) = wi at HKI HPT ⊢
      generalize wr = wb at *
      have HPS : Hid (wb.heap.size < wi.heap.size) := heap_lt HPT.out
      generalize hpt : wb.heap.size = pt at HPT HPS ⊢
      have HPE := Lib.hid hpt
      clear hpt
      go_loopw [6] (fun i wx => ∃ (k : Nat) (fv : Value), k ≤ T.length ∧ i = .int .i64 k ∧ wx.heap[pt]? = some (.cells #[fv] 42 (0, 0)) ∧ OwnFs (pt + 1) wx fv (T.take k) ∧ Kp 0 0 wb wx) (fun i _ => T.length - (intOf i).toNat)
      case atStart => exact ⟨0, _, Nat.zero_le _, rfl, HPT.out, OwnFs.nil _ _, HKI.out⟩
      case round =>
        obtain ⟨j, fv, hj, rfl, hpt, hofs, hkx⟩ := hrel
        by_cases hjt : j < T.length
        · obtain ⟨F, hF⟩ : ∃ F, T[j]? = some F := ⟨_, List.getElem?_eq_getElem hjt⟩
          obtain ⟨b2, o2, mo, mc, rfl, hb2, g0, g1, g2, g3, hm1, hm2, hms⟩ := fl_at HF.out.cl hF
          have HTS := Lib.hid (take_snoc hF)
          have hT20 : T.length ≤ 20 := HTL.out.1
          have HML : Hid (F.ms.length ≤ 40) := HTL.out.2 F (List.mem_of_getElem? hF)
          have HLJ : Hid ((T.take j).length = j) := by show _ = _; rw [List.length_take]; omega
          have k0 : (0 : Int) ≤ (j : Int) := Int.natCast_nonneg _
          have k1 : (j : Int) < (T.length : Int) := by omega
          have HKS : Hid (∀ W, Kp 0 0 wb W → W.cell? ⟨q0, 0, none⟩ = some (.slice (some ⟨b, o, none⟩) d.ts.length tc) ∧ W.cell? ⟨b, o + i, none⟩ = some (.slice (some ⟨b2, o2, none⟩) T.length fc) ∧ W.cell? ⟨b2, o2 + j * 4, none⟩ = some (.int .i64 F.k) ∧ W.cell? ⟨b2, o2 + j * 4 + 1, none⟩ = some (.int .i64 F.p) ∧ W.cell? ⟨b2, o2 + j * 4 + 2, none⟩ = some (.bool F.b) ∧ W.cell? ⟨b2, o2 + j * 4 + 3, none⟩ = some (.slice mo F.ms.length mc) ∧ Kp 0 0 wb W) := fun W hW => ⟨hW.cell q00 (.inr (Nat.zero_le _)), hW.cell HC1.out (.inr (Nat.zero_le _)), hW.cell g0 (.inr (Nat.zero_le _)), hW.cell g1 (.inr (Nat.zero_le _)), hW.cell g2 (.inr (Nat.zero_le _)), hW.cell g3 (.inr (Nat.zero_le _)), hW⟩
          have HS0 := Lib.hid (HKS.out wr hkx)
          have c3 := blk_cell hpt (k := 0) (u := fv) rfl
          have HCF : Hid (∀ W, Kp 0 0 wr W → Calls Try.prog 17 #[.agg #[.int .i64 F.k, .int .i64 F.p, .bool F.b, .slice mo F.ms.length mc]] W fun r w' => ∃ mv, r = .returned (fieldV F mv) ∧ OwnS mvE 73 4 (pt + 1) w' (fun _ => False) mv F.ms ∧ Kp 0 0 wr w') := fun W hW => (copyFl_any F W _ (hms.keep0 mvE_good (hkx.trans hW)) (by have := HML.out; omega)).mono fun r w' ⟨mv, hr, ho, hk⟩ => ⟨mv, hr, ho.below (by have := hW.size; have := heap_lt hpt; omega), hW.trans hk⟩
          obtain ⟨xs, hrow, hsp⟩ := hofs
          rw [HLJ.out] at hrow
          have HROW := Lib.hid hrow
          have HSP := Lib.hid hsp
          have HKX := Lib.hid hkx
          have HPT2 := Lib.hid hpt
          have HPZ : Hid (pt < wr.heap.size) := heap_lt hpt
          clear hF hms hkx hpt hrow hsp g0 g1 g2 g3
          obtain ⟨s0, s1, s2, s3, s4, s5, s6⟩ := HS0.out
          have hk6 : Kp 0 0 wb wr.drew := HKX.out.drew
          clear s6 HS0
          go_wp2_with fail
          go_region_law (first
              | (refine step_own rfl (.tmp 28) (.tmp 39) 40 rfl (pt + 1) 45 tif (.agg #[.int .i64 0, .int .i64 0, .bool false, .slice none 0 0]) 4 48 Try.underlying40 hi1 hy0 hy1 hy2 rfl (by decide) fv j xs (by simp [Act.eval]) hr7 ⟨w7.heap.size, 0, none⟩ 1 1 [.int .i64 F.k, .int .i64 F.p, .bool F.b, .slice mo7 F.ms.length mc7] (by simp [Act.eval]) rfl (cell_lits _ _ _) (by simp [Value.oneCell']) (by unfold maxLen; omega) (by omega) (by have := hk.size; have := HPZ.out; simp; omega) ?_
                 intro v8 w8 hown8 hg8 _
                 obtain ⟨g8, c8, rfl, hg81, hg82⟩ := own_some hown8 (by omega)
                 have hk8 : Kp 0 0 wb w8 := hk7a.grown hg8 fun g hg => .inl (by have := (ownsRow_lt hr7 g hg).1; have := HPE.out; omega)
                 have ht8 : Ktag 45 w7 w8 := (Ktag.of_kp ((Kp.refl 0 0 w7).alloc _)).trans (Ktag.of_grown hg8 (ownsRow_tag hr7))
                 have hp8 := ht8 pt _ _ hp7 tag_tf
                 have c38 := blk_cell hp8 (k := 0) (u := fv) rfl
                 have f38 := blk_frozen hp8 0
                 have hk9 : Kp 0 0 wb (w8.setCell ⟨pt, 0, none⟩ (.slice (some ⟨g8, 0, none⟩) (j + 1) c8)) := hk8.step (kp_set w8 pt 0 _) (fun q h1 h2 => .inl (by have := HPE.out; omega)))
              | (go_simp
                 go_at_call 17
                 refine (HCF.out _ (Kp.refl 0 0 wr).drew).mono ?_
                 rintro r w7 ⟨mv, rfl, hmv, hk⟩
                 unfold fieldV
                 obtain ⟨mo7, mc7, rfl, _, _, _⟩ := (hmv.rd (T := fun _ => True) mvE_good (fun _ _ _ => trivial) (fun _ _ => trivial)).open
                 have hk7 : Kp 0 0 wb w7 := HKX.out.trans hk
                 have hk7a := hk7.alloc (.cells #[.int .i64 F.k, .int .i64 F.p, .bool F.b, .slice mo7 F.ms.length mc7] 45)
                 have hp7 := hk.heap HPT2.out (.inr (Nat.zero_le _))
                 have hc7 := blk_cell hp7 (k := 0) (u := fv) rfl
                 have hc7a := blk_cell (blk_old hp7 (.cells #[.int .i64 F.k, .int .i64 F.p, .bool F.b, .slice mo7 F.ms.length mc7] 45)) (k := 0) (u := fv) rfl
                 have hr7 := (ownsRow_kp HROW.out hk (fun _ _ => .inr (Nat.zero_le _))).alloc (.cells #[.int .i64 F.k, .int .i64 F.p, .bool F.b, .slice mo7 F.ms.length mc7] 45)))
          all_goals
            have HPT9 : Hid ((w8.setCell ⟨pt, 0, none⟩ (.slice (some ⟨g8, 0, none⟩) (j + 1) c8)).heap[pt]? = some (.cells #[.slice (some ⟨g8, 0, none⟩) (j + 1) c8] 42 (0, 0))) := blk_set hp8 0 _
            have HOF9 : Hid (OwnFs (pt + 1) (w8.setCell ⟨pt, 0, none⟩ (.slice (some ⟨g8, 0, none⟩) (j + 1) c8)) (.slice (some ⟨g8, 0, none⟩) (j + 1) c8) (T.take (j + 1))) := by
              show OwnFs _ _ _ _
              rw [HTS.out]
              exact (OwnFs.snoc (flO_split HSP.out hk) hown8 HLJ.out ht8 hmv).ktag (Ktag.of_set hp8 0 _) (Ne.symm tag_tf) (Ne.symm tag_tm)
            have HK9 := Lib.hid hk9
            clear hown8 hg8 hk8 ht8 hp8 c38 f38 hk9 hk7 hk7a hp7 hc7 hc7a hr7 hmv hk hk6
            go_wp2_with fail
            go_roundw
            case rel => exact ⟨j + 1, _, by omega, by go_num, HPT9.out, HOF9.out, HK9.out⟩
            case measure => simp [intOf]; omega
        · obtain rfl : j = T.length := by omega
          rw [List.take_length] at hofs
          have HPT2 := Lib.hid hpt
          have HOF := Lib.hid hofs
          have HKX := Lib.hid hkx
          have HOT2 := Lib.hid (HOT.out.keep0 hkx)
          have HQ22 := Lib.hid (hkx.heap HQ2R.out (.inr (Nat.zero_le _)))
          have s0 := hkx.cell q00 (.inr (Nat.zero_le _))
          have s1 := hkx.cell HC1.out (.inr (Nat.zero_le _))
          have s2 := blk_cell hpt (k := 0) (u := fv) rfl
          have s3 := blk_cell HQ22.out (k := 0) (u := tv') rfl
          obtain ⟨fo2, fc2, rfl⟩ : ∃ ao c, fv = .slice ao T.length c := by
            obtain ⟨_, h, _⟩ := hofs
            exact ownsRow_open h
          obtain ⟨fvs, hl1, hrow, hl3, hl4⟩ := HOT.out
          have hli : Hid ((d.ts.take i).length = i) := by show _ = _; rw [List.length_take]; omega
          have HL1 := Lib.hid hl1
          rw [hli.out] at hrow hl1
          have hrow := ownsRow_kp hrow hkx (fun _ _ => .inr (Nat.zero_le _))
          have HL3 : Hid (∀ n U, (d.ts.take i)[n]? = some U → OwnFs w3.heap.size wr (fvs.getD n undef) U) := fun n U hn => (hl3 n U hn).keep0 hkx
          have HL4 := Lib.hid hl4
          have HTS := Lib.hid (take_snoc HTI.out)
          have HWX := Lib.hid (HKR.out.trans (hkx.any))
          have hszx := hkx.size
          have hsz3 := HKR.out.size
          have hfresh : Hid (∀ n g, n < fvs.length → (fvs.getD n undef).ownBlock = some g → (Value.slice fo2 T.length fc2).ownBlock ≠ some g) := by
            intro n g hn hg he
            have h1 := (HOF.out.lt g he).1
            have h2 := ((hl3 n (d.ts.take i)[n] (List.getElem?_eq_getElem (by rw [hli.out]; omega))).lt g hg).2
            have := HPE.out
            omega
          have HOF3 : Hid (OwnFs w3.heap.size wr (.slice fo2 T.length fc2) T) := HOF.out.below (by have := HPE.out; omega)
          clear hofs hpt hkx hl1 hl3 hl4
          go_wp2_with (at_builtin; refine wpList_append_own _ rfl _ _ 22 rfl w3.heap.size 42 tit (.agg #[.slice none 0 0]) 1 24 Try.underlying22 hi2 hu0 hu1 hu2 rfl (by decide) _ _ _ rfl (hrow.alloc _) ⟨wr.heap.size, 0, none⟩ 1 1 [.slice fo2 T.length fc2] rfl rfl (cell_lits _ _ _) (by simp [Value.oneCell']) ?c3 ?c4 ?c5 ?_)
          case c3 => unfold maxLen; omega
          case c4 => omega
          case c5 => simp; omega
          intro v8 w8 hown8 hg8 _
          obtain ⟨g8, c8, rfl, hg81, hg82⟩ := own_some hown8 (by omega)
          have hk8 : Kp q2 (q2 + 1) w3 w8 := (HWX.out.alloc _).grown hg8 fun g hg => .inl (ownsRow_lt hrow g hg).1
          have ht8 : Ktag 42 wr w8 := (Ktag.of_kp ((Kp.refl 0 0 wr).alloc _)).trans (Ktag.of_grown hg8 (ownsRow_tag (hrow.alloc _)))
          have hp8 := ht8 q2 _ _ HQ22.out (by decide)
          have HOT8 : Hid (OwnTs w3.heap.size w8 (.slice (some ⟨g8, 0, none⟩) (i + 1) c8) (d.ts.take (i + 1))) := by
            show OwnTs _ _ _ _
            rw [HTS.out]
            exact OwnTs.snoc HL1.out HL3.out HL4.out hown8 hli.out ht8 HOF3.out hfresh.out
          have HQ9 : Hid ((w8.setCell ⟨q2, 0, none⟩ (.slice (some ⟨g8, 0, none⟩) (i + 1) c8)).heap[q2]? = some (.cells #[.slice (some ⟨g8, 0, none⟩) (i + 1) c8, .slice none 0 0] 25 (0, 0))) := blk_set hp8 0 _
          have HOT9 : Hid (OwnTs w3.heap.size (w8.setCell ⟨q2, 0, none⟩ (.slice (some ⟨g8, 0, none⟩) (i + 1) c8)) (.slice (some ⟨g8, 0, none⟩) (i + 1) c8) (d.ts.take (i + 1))) := HOT8.out.ktag (Ktag.of_set hp8 0 _) (by decide) (by decide) (by decide)
          have HK9 : Hid (Kp q2 (q2 + 1) w3 (w8.setCell ⟨q2, 0, none⟩ (.slice (some ⟨g8, 0, none⟩) (i + 1) c8))) := hk8.trans (kp_set w8 q2 0 _)
          have c38 := blk_cell hp8 (k := 0) (u := tv') rfl
          have f38 := blk_frozen hp8 0
          clear hown8 hg8 hk8 ht8 hp8 hrow
          go_wp2_with fail
          go_roundw
          case rel => exact ⟨i + 1, _, by omega, by go_num, HQ9.out, HOT9.out, HK9.out⟩
          case measure => simp [intOf]; omega
    · obtain rfl : i = d.ts.length := by omega
      rw [List.take_length] at hots
      have HOT := Lib.hid hots
      have HQ2R := Lib.hid hq2
      have HKR0 := Lib.hid hkp
      clear hkp hots hq2 hq0
      obtain ⟨tvo, tvc, rfl⟩ : ∃ ao c, tv' = .slice ao d.ts.length c := by
        obtain ⟨_, _, h, _⟩ := HOT.out
        exact ownsRow_open h
      go_wp2_with fail
      generalize wr = wt at *
      go_loopw [7] (fun i wx => ∃ (k : Nat) (pv' : Value), k ≤ d.ps.length ∧ i = .int .i64 k ∧ wx.heap[q2]? = some (.cells #[.slice tvo d.ts.length tvc, pv'] 25 (0, 0)) ∧ OwnTs w3.heap.size wx (.slice tvo d.ts.length tvc) d.ts ∧ OwnS pjE 51 5 w3.heap.size wx (fun _ => False) pv' (d.ps.take k) ∧ Kp q2 (q2 + 1) w3 wx) (fun i _ => d.ps.length - (intOf i).toNat)
      case atStart => exact ⟨0, _, Nat.zero_le _, rfl, HQ2R.out, HOT.out, OwnS.nil _ _ _ _ _ _, HKR.out⟩
      case round =>
        obtain ⟨k, pv', hk, rfl, hq2, hots, hops, hkp⟩ := hrel
        have hq0 := hkp.heap HQ0.out (.inl (by have := HQE.out; omega))
        have q01 := blk_cell hq0 (k := 1) (u := .slice po d.ps.length pc) rfl
        by_cases hkt : k < d.ps.length
        · obtain ⟨P, hP⟩ : ∃ P, d.ps[k]? = some P := ⟨_, List.getElem?_eq_getElem hkt⟩
          obtain ⟨b, o, rfl, hb, g0, g1, g2, g3, g4⟩ := pj_at HP3.out hP
          have HTS := Lib.hid (take_snoc hP)
          have HLK : Hid ((d.ps.take k).length = k) := by show _ = _; rw [List.length_take]; omega
          have k0 : (0 : Int) ≤ (k : Int) := Int.natCast_nonneg _
          have k1 : (k : Int) < (d.ps.length : Int) := by omega
          have HBQ : Hid (b < q2) := by
            obtain ⟨b', o', he, hb', _⟩ := pj_at HPC.out hP
            cases he
            have h5 := pj_at HPC.out hP
            obtain ⟨_, _, he, _, c0, _⟩ := h5
            cases he
            have := cell_lt c0
            have := HQE.out
            show b < q2
            omega
          obtain ⟨pt, pf, pg, pb, pm⟩ := P
          dsimp only at g0 g1 g2 g3 g4
          have HKS : Hid (∀ W, Kp q2 (q2 + 1) w3 W → W.cell? ⟨q0, 1, none⟩ = some (.slice (some ⟨b, o, none⟩) d.ps.length pc) ∧ W.cell? ⟨b, o + k * 5, none⟩ = some (.int .i64 pt) ∧ W.cell? ⟨b, o + k * 5 + 1, none⟩ = some (.int .i64 pf) ∧ W.cell? ⟨b, o + k * 5 + 2, none⟩ = some (.int .i64 pg) ∧ W.cell? ⟨b, o + k * 5 + 3, none⟩ = some (.int .i64 pb) ∧ W.cell? ⟨b, o + k * 5 + 4, none⟩ = some (.int .i64 pm) ∧ Kp q2 (q2 + 1) w3 W) := fun W hW => ⟨hW.cell (blk_cell HQ0.out (k := 1) (u := .slice (some ⟨b, o, none⟩) d.ps.length pc) rfl) (.inl (by have := HQE.out; omega)), hW.cell g0 (.inl HBQ.out), hW.cell g1 (.inl HBQ.out), hW.cell g2 (.inl HBQ.out), hW.cell g3 (.inl HBQ.out), hW.cell g4 (.inl HBQ.out), hW⟩
          have c1 := blk_cell hq2 (k := 1) (u := pv') rfl
          have c1a := blk_cell (((Kp.refl 0 0 wr).alloc (.cells #[.int .i64 pt, .int .i64 pf, .int .i64 pg, .int .i64 pb, .int .i64 pm] 51)).drew.heap hq2 (.inr (Nat.zero_le _))) (k := 1) (u := pv') rfl
          have hk6 : Kp q2 (q2 + 1) w3 wr.drew := hkp.drew
          have hk7 : Kp q2 (q2 + 1) w3 (wr.alloc (.cells #[.int .i64 pt, .int .i64 pf, .int .i64 pg, .int .i64 pb, .int .i64 pm] 51)).drew   := (hkp.alloc _).drew
          obtain ⟨xs, hrow, hsp, _⟩ := hops
          rw [HLK.out] at hrow
          have hr7 : (wr.alloc (.cells #[.int .i64 pt, .int .i64 pf, .int .i64 pg, .int .i64 pb, .int .i64 pm] 51)).drew.ownsRow w3.heap.size 51 5 pv' k xs := ownsRow_kp hrow ((Kp.refl 0 0 wr).alloc _).drew (fun _ _ => .inr (Nat.zero_le _))
          have hz7 : w3.heap.size ≤ (wr.alloc (.cells #[.int .i64 pt, .int .i64 pf, .int .i64 pg, .int .i64 pb, .int .i64 pm] 51)).drew.heap.size := hk7.size
          have HSP := Lib.hid hsp
          have HOT4 := Lib.hid hots
          have HQ4 := Lib.hid hq2
          obtain ⟨s0, s1, s2, s3, s4, s5, s6⟩ := HKS.out wr hkp
          clear hP g0 g1 g2 g3 g4 hsp hots hq2 hq0 hkp s6 q01
          go_wp2_with fail
          go_region_law (first
              | (refine step_own rfl (.tmp 56) (.tmp 62) 23 rfl w3.heap.size 51 tip (.agg #[.int .i64 0, .int .i64 0, .int .i64 0, .int .i64 0, .int .i64 0]) 5 40 Try.underlying23 hi3 hv0 hv1 hv2 rfl (by decide) pv' k xs (by simp [Act.eval]) hr7 ⟨wr.heap.size, 0, none⟩ 1 1 [.int .i64 pt, .int .i64 pf, .int .i64 pg, .int .i64 pb, .int .i64 pm] (by simp [Act.eval]) rfl (cell_lits wr _ _) (by simp [Value.oneCell']) (by unfold maxLen; omega) (by omega) hz7 ?_
                 intro v8 w8 hown8 hg8 _
                 obtain ⟨g8, c8, rfl, hg81, hg82⟩ := own_some hown8 (by omega)
                 have hk8 : Kp q2 (q2 + 1) w3 w8 := hk7.grown hg8 fun g hg => .inl (ownsRow_lt hr7 g hg).1
                 have ht8 : Ktag 51 wr w8 := (Ktag.of_kp ((Kp.refl 0 0 wr).alloc _).drew).trans (Ktag.of_grown hg8 (ownsRow_tag hr7))
                 have hp8 := ht8 q2 _ _ HQ4.out (by decide)
                 have c38 := blk_cell hp8 (k := 1) (u := pv') rfl
                 have f38 := blk_frozen hp8 1
                 have hk9 : Kp q2 (q2 + 1) w3 (w8.setCell ⟨q2, 1, none⟩ (.slice (some ⟨g8, 0, none⟩) (k + 1) c8)) := hk8.trans (kp_set w8 q2 1 _)))
          all_goals
            have HQ9 : Hid ((w8.setCell ⟨q2, 1, none⟩ (.slice (some ⟨g8, 0, none⟩) (k + 1) c8)).heap[q2]? = some (.cells #[.slice tvo d.ts.length tvc, .slice (some ⟨g8, 0, none⟩) (k + 1) c8] 25 (0, 0))) := blk_set hp8 1 _
            have HOT9 : Hid (OwnTs w3.heap.size (w8.setCell ⟨q2, 1, none⟩ (.slice (some ⟨g8, 0, none⟩) (k + 1) c8)) (.slice tvo d.ts.length tvc) d.ts) := (HOT4.out.ktag ht8 tag_tp tag_fp tag_mp).ktag (Ktag.of_set hp8 1 _) (by decide) (by decide) (by decide)
            have HOP9 : Hid (OwnS pjE 51 5 w3.heap.size (w8.setCell ⟨q2, 1, none⟩ (.slice (some ⟨g8, 0, none⟩) (k + 1) c8)) (fun _ => False) (.slice (some ⟨g8, 0, none⟩) (k + 1) c8) (d.ps.take (k + 1))) := by
              show OwnS _ _ _ _ _ _ _ _
              rw [HTS.out]
              exact OwnS.ktag (fun h => h) (OwnS.flat (E := pjE) (x := Pj.mk pt pf pg pb pm) HSP.out hown8 HLK.out rfl (fun h => h) (by exact rfl)) (Ktag.of_set hp8 1 _) (by decide)
            have HK9 := Lib.hid hk9
            clear hown8 hg8 hk8 ht8 hp8 hk9 c1 c1a hk6 hk7 hr7 hz7 hrow
            go_wp2_with fail
            go_roundw
            case rel => exact ⟨k + 1, _, by omega, by go_num, HQ9.out, HOT9.out, HOP9.out, HK9.out⟩
            case measure => simp [intOf]; omega
        · obtain rfl : k = d.ps.length := by omega
          rw [List.take_length] at hops
          obtain ⟨pvo, pvc, rfl⟩ : ∃ ao c, pv' = .slice ao d.ps.length c := by
            obtain ⟨_, h, _⟩ := hops
            exact ownsRow_open h
          have hq1 := hkp.heap HQ1.out (.inl (by have := HQE.out; omega))
          have a0 := blk_cell hq2 (k := 0) (u := .slice tvo d.ts.length tvc) rfl
          have a1 := blk_cell hq2 (k := 1) (u := .slice pvo d.ps.length pvc) rfl
          have z0 := blk_cell hq1 (k := 0) (u := .slice none 0 0) rfl
          have z1 := blk_cell hq1 (k := 1) (u := .slice none 0 0) rfl
          have y0 := blk_frozen hq1 0
          have y1 := blk_frozen hq1 1
          have HKP := Lib.hid hkp
          obtain ⟨hst, hsk⟩ := store_two hq1 rfl (.slice tvo d.ts.length tvc) (.slice pvo d.ps.length pvc)
          have HST := Lib.hid hst
          have HSK := Lib.hid hsk
          have HOD : Hid (OwnD w3.heap.size ((wr.setCell ⟨q1, 0, none⟩ (.slice tvo d.ts.length tvc)).setCell ⟨q1, 1, none⟩ (.slice pvo d.ps.length pvc)) (.slice tvo d.ts.length tvc) (.slice pvo d.ps.length pvc) d) := by
            have hk1 := Ktag.of_set hq1 0 (.slice tvo d.ts.length tvc)
            have hk2 := Ktag.of_set (blk_set hq1 0 (.slice tvo d.ts.length tvc)) 1 (.slice pvo d.ps.length pvc)
            exact ⟨(hots.ktag hk1 (by decide) (by decide) (by decide)).ktag hk2 (by decide) (by decide) (by decide), OwnS.ktag (fun h => h) (OwnS.ktag (fun h => h) hops hk1 (by decide)) hk2 (by decide)⟩
          clear hst hsk hq1 hq2 hops hots hkp hq0
          go_wp2_with fail
          generalize (wr.setCell ⟨q1, 0, none⟩ (.slice tvo d.ts.length tvc)).setCell ⟨q1, 1, none⟩ (.slice pvo d.ps.length pvc) = wu at *
          have b0 := blk_cell HST.out (k := 0) (u := .slice tvo d.ts.length tvc) rfl
          have b1 := blk_cell HST.out (k := 1) (u := .slice pvo d.ps.length pvc) rfl
          try simp only [Exit.inBlock, Exit.then]
          refine bodyPost_ret (by simp [results, Try.results9, go_sem, b0, b1]; try rfl) rfl ?_
          have hod := HOD.out
          refine ⟨_, _, rfl, ⟨?_, hod.p.below (by have := HQE.out; have := HQS.out; omega)⟩, (HW3.out.step HKP.out (fun j h1 h2 => .inl (by have := HQE.out; omega))).step HSK.out (fun j h1 h2 => .inl (by have := HQE.out; omega))⟩
          exact hod.t.below (by have := HQE.out; have := HQS.out; omega)

end Go.Proofs.Ytgokhagbknlfaaa
