/-
  The document's answer for package decl: a type, read, as a part of Get.
-/
import Derived.Test.YtgokhagbknlfaaaDlRead
import Derived.Test.YtgokhagbknlfaaaScCopy
namespace Go.Proofs.Ytgokhagbknlfaaa
open Go.RowKit
set_option maxRecDepth 100000

theorem OwnFs.keepB {base lo hi : Nat} {w w' : World} {v : Value} {T : List Fl} (h : OwnFs base w v T) (hk : Kp lo hi w w') (hb : hi ≤ base) : OwnFs base w' v T := by
  obtain ⟨xs, h1, h2⟩ := h
  refine ⟨xs, ownsRow_kp h1 hk (fun b hb' => .inr (by have := (ownsRow_lt h1 b hb').1; omega)), h2.1, fun i x hi => ?_⟩
  obtain ⟨mv, he, ho⟩ := h2.2 i x hi
  refine ⟨mv, he, ho.keep mvE_good hk (fun _ h => h.elim) (fun b hb' => .inr ?_)⟩
  obtain ⟨_, h, _⟩ := ho
  have := (ownsRow_lt h b hb').1
  omega
theorem flO_splitB {base lo hi k : Nat} {w w' : World} {xs : List Value} {T : List Fl} (h : SplitS (flO base) k w (fun _ => False) xs T) (hk : Kp lo hi w w') (hb : hi ≤ base) : SplitS (flO base) k w' (fun _ => False) xs T :=
  ⟨h.1, fun i x hi => by
    obtain ⟨mv, he, ho⟩ := h.2 i x hi
    refine ⟨mv, he, ho.keep mvE_good hk (fun _ h => h.elim) (fun b hb' => .inr ?_)⟩
    obtain ⟨_, h, _⟩ := ho
    have := (ownsRow_lt h b hb').1
    omega⟩
theorem OwnTs.keepB {base lo hi : Nat} {w w' : World} {v : Value} {ts : List (List Fl)} (h : OwnTs base w v ts) (hk : Kp lo hi w w') (hb : hi ≤ base) : OwnTs base w' v ts := by
  obtain ⟨fvs, h1, h2, h3, h4⟩ := h
  exact ⟨fvs, h1, ownsRow_kp h2 hk (fun b hb' => .inr (by have := (ownsRow_lt h2 b hb').1; omega)), fun i T hi => (h3 i T hi).keepB hk hb, h4⟩

set_option maxRecDepth 100000 in
set_option maxHeartbeats 8000000 in
theorem refDGet_any {l1 h1 : Nat} (L : List Int) (w : World) (v : Value) (hl : RdI .u8 l1 h1 w v L) (hL : L.length ≤ 1000000) (hb : ∀ y ∈ L, 0 ≤ y ∧ y < 256) :
    Calls Try.prog 15 #[v] w fun r w' => ∃ tv pv, r = .returned (.tuple #[.agg #[tv, pv], .int .i64 (Dl.get L).2]) ∧ RdD w' (Iv w.heap.size w'.heap.size) tv pv (Dl.get L).1 ∧ Kp 0 0 w w' := by
  have HL := Lib.hid hl
  have HBY := Lib.hid hb
  have HGT : Hid (Dl.get L = if Dl.err L = 0 then ((Dl.dcR (L, 0)).1, 0) else (⟨[], []⟩, Dl.err L)) := rfl
  have HER : Hid (Dl.err L = Pk.dne (Dl.dcR (L, 0)).2.1 (Dl.dcR (L, 0)).2.2) := rfl
  have HDC : Hid (Dl.dcR (L, 0) = (⟨(Dl.row 8 Dl.tyR (L, 0)).1, (Dl.row 8 Dl.pjR (Dl.row 8 Dl.tyR (L, 0)).2).1⟩, (Dl.row 8 Dl.pjR (Dl.row 8 Dl.tyR (L, 0)).2).2)) := rfl
  have HRT : Hid (∀ s, Dl.row 8 Dl.tyR s = Dl.rep Dl.tyR (Dl.cn 8 s).1.toNat (Dl.cn 8 s).2) := fun _ => rfl
  have HRF : Hid (∀ s, Dl.tyR s = Dl.rep Dl.flR (Dl.cn 8 s).1.toNat (Dl.cn 8 s).2) := fun _ => rfl
  have HRP : Hid (∀ s, Dl.row 8 Dl.pjR s = Dl.rep Dl.pjR (Dl.cn 8 s).1.toNat (Dl.cn 8 s).2) := fun _ => rfl
  obtain ⟨ao, c, rfl, _, _, _⟩ := hl.open
  have HQ0 := Lib.hid (blk_one w (.cells #[.slice none 0 0, .slice none 0 0] 25))
  have HK0 : Hid (Kp 0 0 w (w.alloc (.cells #[.slice none 0 0, .slice none 0 0] 25))) := (Kp.refl _ _ _).alloc _
  clear hl hb
  go_enter Try.func15, Try.ntmps15
  go_upto_region 1 with fail
  generalize w.alloc (.cells #[.slice none 0 0, .slice none 0 0] 25) = w0 at HK0 HQ0 ⊢
  have HQS : Hid (w.heap.size < w0.heap.size) := heap_lt HQ0.out
  generalize hq : w.heap.size = q at HQ0 HQS ⊢
  have HQE := Lib.hid hq
  clear hq
  go_wp2_with fail
  refine (refFrom_any _ L w0 (HL.out.keep0 HK0.out) (by omega)).mono ?_
  rintro r w1 ⟨p, rfl, hp, hr, hk1⟩
  have hlp : w0.heap.size ≤ p := hp
  have hqp : q < p := by have := HQS.out; omega
  have HR1 := Lib.hid ((RefR.rs hr).keep0 ((Kp.refl 0 0 w1).alloc (.cells #[.slice none 0 0, .slice none 0 0] 25)) hlp)
  have hpw : p < w1.heap.size := (RefR.rs hr).lt
  have HQ1 := Lib.hid ((hk1.alloc (.cells #[.slice none 0 0, .slice none 0 0] 25)).heap HQ0.out (.inr (Nat.zero_le _)))
  have HD1 := Lib.hid (blk_one w1 (.cells #[.slice none 0 0, .slice none 0 0] 25))
  have HK1 : Hid (Kp p (p + 1) w (w1.alloc (.cells #[.slice none 0 0, .slice none 0 0] 25))) := ((HK0.out.trans hk1).alloc _).any
  clear hr hk1 hp HQ0 HQS
  go_upto_region 3 with fail
  generalize w1.alloc (.cells #[.slice none 0 0, .slice none 0 0] 25) = w2 at HR1 HQ1 HD1 HK1 ⊢
  generalize hpd : w1.heap.size = pd at HD1 hpw ⊢
  clear hpd
  generalize hlo : w0.heap.size = lo at hlp HR1
  have HI := Lib.hid (fun (s : Ev.St) W (h : RS p lo W L s) => rs_int L s W h hL HBY.out)
  have HCT := Lib.hid (fun (m : Int) (s : Ev.St) W (h : RS p lo W L s) => rs_cnt m L s W h hL HBY.out)
  have HFD := Lib.hid (fun (s : Ev.St) W (h : RS p lo W L s) => refDField_any L s W h hlp hL HBY.out)
  clear hlo
  go_wp2_with fail
  refine (HCT.out 8 _ _ HR1.out).mono ?_
  rintro r w3 ⟨rfl, hr3, hk3⟩
  have hcr := Dl.cn_range 8 (by decide) (L, 0)
  rw [HRT.out] at HDC
  generalize Dl.cn 8 (L, 0) = C at hr3 HDC hcr ⊢
  obtain ⟨N, hN⟩ : ∃ N : Nat, C.1 = (N : Int) := ⟨C.1.toNat, by omega⟩
  have hN8 : N ≤ 8 := by omega
  rw [hN, Int.toNat_natCast] at HDC
  rw [hN]
  have HR3 := Lib.hid hr3
  have HQ3 := Lib.hid (hk3.heap HQ1.out (.inl (by omega)))
  have HD3 := Lib.hid (hk3.heap HD1.out (.inr (by omega)))
  have HK3 := Lib.hid (HK1.out.trans hk3)
  clear hr3 hk3 hcr hN HQ1 HD1 HR1 HK1
  generalize C.2 = s3 at HDC HR3
  go_wp2_with fail
  go_loopw [7, 8, 9, 10] (fun i _ _ _ wr => ∃ (k : Nat) (tv : Value), k ≤ N ∧ i = .int .i64 k ∧ wr.heap[pd]? = some (.cells #[tv, .slice none 0 0] 25 (0, 0)) ∧ wr.heap[q]? = some (.cells #[.slice none 0 0, .slice none 0 0] 25 (0, 0)) ∧ OwnTs (pd + 1) wr tv (Dl.rep Dl.tyR k s3).1 ∧ RS p lo wr L (Dl.rep Dl.tyR k s3).2 ∧ Kp p (p + 1) w wr) (fun i _ _ _ _ => N - (intOf i).toNat)
  case atStart => exact ⟨0, _, Nat.zero_le _, rfl, HD3.out, HQ3.out, OwnTs.nil _ _, HR3.out, HK3.out⟩
  case round =>
    obtain ⟨k, tv, hk, rfl, hd1, hq1, hown, hr, hkp⟩ := hrel
    have HDk := Lib.hid hd1
    have HQk := Lib.hid hq1
    have HOk := Lib.hid hown
    have HRk := Lib.hid hr
    have HKk := Lib.hid hkp
    have hszd := heap_lt hd1
    clear hd1 hq1 hown hr hkp
    by_cases hlt : k < N
    · have k1 : (k : Int) < (N : Int) := by omega
      have HSN := Lib.hid (Dl.rep_snoc Dl.tyR k s3)
      have HLEN : Hid ((Dl.rep Dl.tyR k s3).1.length = k) := Dl.rep_len _ _ _
      generalize Dl.rep Dl.tyR k s3 = nk at *
      obtain ⟨ds, st⟩ := nk
      simp only at HOk HRk HSN HLEN
      have HKI : Hid (Kp 0 0 wr (wr.alloc (.cells #[.slice none 0 0] 42))) := (Kp.refl _ _ _).alloc _
      have HPT := Lib.hid (blk_one wr (.cells #[.slice none 0 0] 42))
      have HRI := Lib.hid (HRk.out.keep0 HKI.out hlp)
      go_upto_region 8 with fail
      generalize wr.alloc (.cells #[.slice none 0 0] 42) = wi at HKI HPT HRI ⊢
      generalize hpt : wr.heap.size = pt at HPT hszd ⊢
      have HPE := Lib.hid hpt
      clear hpt
      go_wp2_with fail
      refine (HCT.out 8 _ _ HRI.out).mono ?_
      rintro r w4 ⟨rfl, hr4, hk4⟩
      have hcr := Dl.cn_range 8 (by decide) st
      rw [HRF.out] at HSN
      generalize Dl.cn 8 st = C2 at hr4 HSN hcr ⊢
      obtain ⟨M, hM⟩ : ∃ M : Nat, C2.1 = (M : Int) := ⟨C2.1.toNat, by omega⟩
      have hM8 : M ≤ 8 := by omega
      rw [hM, Int.toNat_natCast] at HSN
      rw [hM]
      have HR4 := Lib.hid hr4
      have HPT4 := Lib.hid (hk4.heap HPT.out (.inr (by omega)))
      have HK4 : Hid (Kp p (p + 1) wr w4) := HKI.out.any.trans hk4
      have HS4 : Hid (pt < w4.heap.size) := heap_lt HPT4.out
      clear hr4 hk4 hcr hM HPT HRI HKI
      generalize C2.2 = s4 at HSN HR4
      generalize wr = wb at *
      go_wp2_with fail
      obtain ⟨tif, hi1, hy0, hy1, hy2⟩ := info_parts info_fl
      go_loopw [10] (fun i wx => ∃ (j : Nat) (fv : Value), j ≤ M ∧ i = .int .i64 j ∧ wx.heap[pt]? = some (.cells #[fv] 42 (0, 0)) ∧ OwnFs (pt + 1) wx fv (Dl.rep Dl.flR j s4).1 ∧ RS p lo wx L (Dl.rep Dl.flR j s4).2 ∧ Kp p (p + 1) wb wx) (fun i _ => M - (intOf i).toNat)
      case atStart => exact ⟨0, _, Nat.zero_le _, rfl, HPT4.out, OwnFs.nil _ _, HR4.out, HK4.out⟩
      case round =>
        obtain ⟨j, fv, hj, rfl, hpt, hofs, hrs, hkx⟩ := hrel
        by_cases hjt : j < M
        · have k2 : (j : Int) < (M : Int) := by omega
          have HFN := Lib.hid (Dl.rep_snoc Dl.flR j s4)
          have HLJ : Hid ((Dl.rep Dl.flR j s4).1.length = j) := Dl.rep_len _ _ _
          generalize Dl.rep Dl.flR j s4 = nj at *
          obtain ⟨fs, sj⟩ := nj
          simp only at hofs hrs HFN HLJ
          have HCF : Hid (Calls Try.prog 35 #[.pointer (some ⟨p, 0, none⟩)] wr.drew fun r w' => ∃ mv, r = .returned (fieldV (Dl.flR sj).1 mv) ∧ OwnS mvE 73 4 (pt + 1) w' (fun _ => False) mv (Dl.flR sj).1.ms ∧ RS p lo w' L (Dl.flR sj).2 ∧ Kp p (p + 1) wr w') := (HFD.out sj wr.drew (hrs.keep0 ((Kp.refl 0 0 wr).drew) hlp)).mono fun r w' ⟨mv, hr, ho, hrr, hk⟩ => ⟨mv, hr, ho.below (heap_lt hpt), hrr, ((Kp.refl p (p + 1) wr).drew).trans hk⟩
          generalize (Dl.flR sj).2 = sk at HCF HFN
          generalize (Dl.flR sj).1 = F at HCF HFN
          have c3 := blk_cell hpt (k := 0) (u := fv) rfl
          obtain ⟨xs, hrow, hsp⟩ := hofs
          rw [HLJ.out] at hrow
          have HROW := Lib.hid hrow
          have HSP := Lib.hid hsp
          have HKX := Lib.hid hkx
          have HPT2 := Lib.hid hpt
          have HPZ : Hid (pt < wr.heap.size) := heap_lt hpt
          obtain ⟨fo2, fc2, rfl⟩ := ownsRow_open hrow
          clear hpt hrow hsp hkx hrs
          go_wp2_with fail
          go_region_law (first
            | (refine step_own rfl (.tmp 32) (.tmp 35) 40 rfl (pt + 1) 45 tif (.agg #[.int .i64 0, .int .i64 0, .bool false, .slice none 0 0]) 4 48 Try.underlying40 hi1 hy0 hy1 hy2 rfl (by decide) (.slice fo2 j fc2) j xs (by simp [Act.eval]) hr7 ⟨w7.heap.size, 0, none⟩ 1 1 [.int .i64 F.k, .int .i64 F.p, .bool F.b, .slice mo7 F.ms.length mc7] (by simp [Act.eval]) rfl (cell_lits _ _ _) (by simp [Value.oneCell']) (by unfold maxLen; omega) (by omega) (by have := hk7.size; have := HPZ.out; simp; omega) ?_
               intro v8 w8 hown8 hg8 _
               obtain ⟨g8, c8, rfl, hg81, hg82⟩ := own_some hown8 (by omega)
               have ht8 : Ktag 45 w7 w8 := (Ktag.of_kp ((Kp.refl 0 0 w7).alloc _)).trans (Ktag.of_grown hg8 (ownsRow_tag hr7))
               have hkx8 : Kp (pt + 1) w7.heap.size w7 w8 := ((Kp.refl _ _ _).alloc _).grown hg8 fun b hb => .inr (ownsRow_lt hr70 b hb)
               have hp8 := ht8 pt _ _ hp7 tag_tf
               have c38 := blk_cell hp8 (k := 0) (u := .slice fo2 j fc2) rfl
               have f38 := blk_frozen hp8 0)
            | (go_simp
               go_at_call 35
               refine HCF.out.mono ?_
               rintro r w7 ⟨mv, rfl, hmv, hrr7, hk7⟩
               unfold fieldV
               obtain ⟨mo7, mc7, rfl, _, _, _⟩ := (hmv.rd (T := fun _ => True) mvE_good (fun _ _ _ => trivial) (fun _ _ => trivial)).open
               have hp7 := hk7.heap HPT2.out (.inr (by omega))
               have hc7 := blk_cell hp7 (k := 0) (u := .slice fo2 j fc2) rfl
               have hc7a := blk_cell (blk_old hp7 (.cells #[.int .i64 F.k, .int .i64 F.p, .bool F.b, .slice mo7 F.ms.length mc7] 45)) (k := 0) (u := .slice fo2 j fc2) rfl
               have hr70 := ownsRow_kp HROW.out hk7 (fun b hb => .inr (by have := (ownsRow_lt HROW.out b hb).1; omega))
               have hr7 := hr70.alloc (.cells #[.int .i64 F.k, .int .i64 F.p, .bool F.b, .slice mo7 F.ms.length mc7] 45)))
          all_goals
            have hks := kp_set w8 pt 0 (.slice (some ⟨g8, 0, none⟩) (j + 1) c8)
            have HPT9 : Hid ((w8.setCell ⟨pt, 0, none⟩ (.slice (some ⟨g8, 0, none⟩) (j + 1) c8)).heap[pt]? = some (.cells #[.slice (some ⟨g8, 0, none⟩) (j + 1) c8] 42 (0, 0))) := blk_set hp8 0 _
            have HOF9 : Hid (OwnFs (pt + 1) (w8.setCell ⟨pt, 0, none⟩ (.slice (some ⟨g8, 0, none⟩) (j + 1) c8)) (.slice (some ⟨g8, 0, none⟩) (j + 1) c8) (fs ++ [F])) := (OwnFs.snoc (flO_splitB HSP.out hk7 (by omega)) hown8 HLJ.out ht8 hmv).ktag (Ktag.of_set hp8 0 _) (Ne.symm tag_tf) (Ne.symm tag_tm)
            have HR9 : Hid (RS p lo (w8.setCell ⟨pt, 0, none⟩ (.slice (some ⟨g8, 0, none⟩) (j + 1) c8)) L sk) := (hrr7.keep hkx8 (fun b h1 h2 => .inl (by omega)) hlp).keep hks (fun b h1 h2 => .inl (by omega)) hlp
            have HK9 : Hid (Kp p (p + 1) wb (w8.setCell ⟨pt, 0, none⟩ (.slice (some ⟨g8, 0, none⟩) (j + 1) c8))) := ((HKX.out.trans hk7).step hkx8 (fun b h1 h2 => .inl (by have := HPE.out; omega))).step hks (fun b h1 h2 => .inl (by have := HPE.out; omega))
            clear hown8 hg8 ht8 hkx8 hp8 c38 f38 hk7 hp7 hc7 hc7a hr70 hr7 hmv hrr7 hks
            go_wp2_with fail
            go_roundw
            case rel => exact ⟨j + 1, _, by omega, by go_num, HPT9.out, by rw [HFN.out]; exact HOF9.out, by rw [HFN.out]; exact HR9.out, HK9.out⟩
            case measure => simp [intOf]; omega
        · obtain rfl : j = M := by omega
          have k2 : ¬ (j : Int) < (j : Int) := by omega
          have hfl : (Dl.rep Dl.flR j s4).1.length = j := Dl.rep_len _ _ _
          generalize Dl.rep Dl.flR j s4 = nj at *
          obtain ⟨T, sj⟩ := nj
          simp only at hofs hrs hfl HSN
          have HRX := Lib.hid hrs
          have HKX := Lib.hid hkx
          have hdx := hkx.heap HDk.out (.inr (by omega))
          have hqx := hkx.heap HQk.out (.inl (by omega))
          have s2 := blk_cell hpt (k := 0) (u := fv) rfl
          have s3' := blk_cell hdx (k := 0) (u := tv) rfl
          obtain ⟨fo2, fc2, rfl⟩ : ∃ ao c, fv = .slice ao j c := by
            obtain ⟨_, h, _⟩ := hofs
            rw [hfl] at h
            exact ownsRow_open h
          obtain ⟨fvs, hl1, hrow, hl3, hl4⟩ := HOk.out
          rw [HLEN.out] at hrow
          have hrow0 := hrow
          have hrow := ownsRow_kp hrow hkx (fun b hb => .inr (by have := (ownsRow_lt hrow0 b hb).1; omega))
          obtain ⟨tvo, tvc, rfl⟩ := ownsRow_open hrow0
          have HL1 := Lib.hid hl1
          have HL3 : Hid (∀ n U, ds[n]? = some U → OwnFs (pd + 1) wr (fvs.getD n undef) U) := fun n U hn => (hl3 n U hn).keepB hkx (by omega)
          have HL4 := Lib.hid hl4
          have hfresh : Hid (∀ n g, n < fvs.length → (fvs.getD n undef).ownBlock = some g → (Value.slice fo2 j fc2).ownBlock ≠ some g) := by
            intro n g hn hg he
            have h1 := (hofs.lt g he).1
            have h2 := ((hl3 n ds[n] (List.getElem?_eq_getElem (by omega))).lt g hg).2
            have := HPE.out
            omega
          have HOF3 : Hid (OwnFs (pd + 1) wr (.slice fo2 j fc2) T) := hofs.below (by omega)
          have HPZ : Hid (pt < wr.heap.size) := heap_lt hpt
          have HDX := Lib.hid hdx
          have HQX := Lib.hid hqx
          have HROW := Lib.hid hrow
          obtain ⟨tit, hi2, hu0, hu1, hu2⟩ := info_parts info_ty
          clear hofs hpt hkx hl1 hl3 hl4 hrs hdx hqx hrow hrow0 hfl
          go_wp2_with (at_builtin; refine wpList_append_own _ rfl _ _ 22 rfl (pd + 1) 42 tit (.agg #[.slice none 0 0]) 1 24 Try.underlying22 hi2 hu0 hu1 hu2 rfl (by decide) _ _ _ rfl (HROW.out.alloc _) ⟨wr.heap.size, 0, none⟩ 1 1 [.slice fo2 j fc2] rfl rfl (cell_lits _ _ _) (by simp [Value.oneCell']) ?e3 ?e4 ?e5 ?_)
          case e3 => unfold maxLen; omega
          case e4 => omega
          case e5 => have := HPZ.out; simp; omega
          intro v8 w8 hown8 hg8 _
          obtain ⟨g8, c8, rfl, hg81, hg82⟩ := own_some hown8 (by omega)
          have hkx8 : Kp (pd + 1) wr.heap.size wr w8 := ((Kp.refl _ _ _).alloc _).grown hg8 fun b hb => .inr (ownsRow_lt HROW.out b hb)
          have ht8 : Ktag 42 wr w8 := (Ktag.of_kp ((Kp.refl 0 0 wr).alloc _)).trans (Ktag.of_grown hg8 (ownsRow_tag (HROW.out.alloc _)))
          have hp8 := ht8 pd _ _ HDX.out (by decide)
          have hq8 := hkx8.heap HQX.out (.inl (by omega))
          have hks := kp_set w8 pd 0 (.slice (some ⟨g8, 0, none⟩) (k + 1) c8)
          have HOT8 : Hid (OwnTs (pd + 1) w8 (.slice (some ⟨g8, 0, none⟩) (k + 1) c8) (ds ++ [T])) := OwnTs.snoc HL1.out HL3.out HL4.out hown8 HLEN.out ht8 HOF3.out hfresh.out
          have HD9 : Hid ((w8.setCell ⟨pd, 0, none⟩ (.slice (some ⟨g8, 0, none⟩) (k + 1) c8)).heap[pd]? = some (.cells #[.slice (some ⟨g8, 0, none⟩) (k + 1) c8, .slice none 0 0] 25 (0, 0))) := blk_set hp8 0 _
          have HQ9 := Lib.hid (hks.heap hq8 (.inl (by omega)))
          have HOT9 : Hid (OwnTs (pd + 1) (w8.setCell ⟨pd, 0, none⟩ (.slice (some ⟨g8, 0, none⟩) (k + 1) c8)) (.slice (some ⟨g8, 0, none⟩) (k + 1) c8) (ds ++ [T])) := HOT8.out.ktag (Ktag.of_set hp8 0 _) (by decide) (by decide) (by decide)
          have HR9 : Hid (RS p lo (w8.setCell ⟨pd, 0, none⟩ (.slice (some ⟨g8, 0, none⟩) (k + 1) c8)) L sj) := (HRX.out.keep hkx8 (fun b h1 h2 => .inl (by omega)) hlp).keep hks (fun b h1 h2 => .inl (by omega)) hlp
          have HWQ : Hid (w.heap.size ≤ pd) := by have := HQE.out; show _ ≤ _; omega
          have HK9 : Hid (Kp p (p + 1) w (w8.setCell ⟨pd, 0, none⟩ (.slice (some ⟨g8, 0, none⟩) (k + 1) c8))) := ((HKk.out.trans HKX.out).step hkx8 (fun b h1 h2 => .inl (by have := HWQ.out; omega))).step hks (fun b h1 h2 => .inl (by have := HWQ.out; omega))
          have c38 := blk_cell hp8 (k := 0) (u := .slice tvo k tvc) rfl
          have f38 := blk_frozen hp8 0
          clear hown8 hg8 hkx8 ht8 hp8 hq8 hks s2 s3'
          go_wp2_with fail
          go_roundw
          case rel => exact ⟨k + 1, _, by omega, by go_num, HD9.out, HQ9.out, by rw [HSN.out]; exact HOT9.out, by rw [HSN.out]; exact HR9.out, HK9.out⟩
          case measure => simp [intOf]; omega
    · obtain rfl : k = N := by omega
      have k1 : ¬ (k : Int) < (k : Int) := by omega
      have hfl : (Dl.rep Dl.tyR k s3).1.length = k := Dl.rep_len _ _ _
      generalize Dl.rep Dl.tyR k s3 = nk at *
      obtain ⟨TS, s5⟩ := nk
      simp only at HOk HRk HDC hfl
      obtain ⟨tvo, tvc, rfl⟩ : ∃ ao c, tv = .slice ao k c := by
        obtain ⟨_, _, h, _⟩ := HOk.out
        rw [hfl] at h
        exact ownsRow_open h
      clear HQ3 HD3 HR3 HK3
      go_wp2_with fail
      refine (HCT.out 8 _ _ HRk.out).mono ?_
      rintro r w4 ⟨rfl, hr4, hk4⟩
      have hcr := Dl.cn_range 8 (by decide) s5
      rw [HRP.out] at HDC
      generalize Dl.cn 8 s5 = C2 at hr4 HDC hcr ⊢
      obtain ⟨M, hM⟩ : ∃ M : Nat, C2.1 = (M : Int) := ⟨C2.1.toNat, by omega⟩
      have hM8 : M ≤ 8 := by omega
      rw [hM, Int.toNat_natCast] at HDC
      rw [hM]
      have HR4 := Lib.hid hr4
      have HD4 := Lib.hid (hk4.heap HDk.out (.inr (by omega)))
      have HQ4 := Lib.hid (hk4.heap HQk.out (.inl (by omega)))
      have HO4 := Lib.hid (HOk.out.keepB hk4 (by omega))
      have HK4 := Lib.hid (HKk.out.trans hk4)
      clear hr4 hk4 hcr hM HDk HQk HOk HRk HKk
      generalize C2.2 = s6 at HDC HR4
      go_wp2_with fail
      obtain ⟨tip, hi3, hv0, hv1, hv2⟩ := info_parts info_pj
      go_loopw [11, 12] (fun i _ wx => ∃ (n : Nat) (pv : Value), n ≤ M ∧ i = .int .i64 n ∧ wx.heap[pd]? = some (.cells #[.slice tvo k tvc, pv] 25 (0, 0)) ∧ wx.heap[q]? = some (.cells #[.slice none 0 0, .slice none 0 0] 25 (0, 0)) ∧ OwnTs (pd + 1) wx (.slice tvo k tvc) TS ∧ OwnS pjE 51 5 (pd + 1) wx (fun _ => False) pv (Dl.rep Dl.pjR n s6).1 ∧ RS p lo wx L (Dl.rep Dl.pjR n s6).2 ∧ Kp p (p + 1) w wx) (fun i _ _ => M - (intOf i).toNat)
      case atStart => exact ⟨0, _, Nat.zero_le _, rfl, HD4.out, HQ4.out, HO4.out, OwnS.nil _ _ _ _ _ _, HR4.out, HK4.out⟩
      case round =>
        obtain ⟨n, pv, hn, rfl, hd1, hq1, hots, hops, hr, hkp⟩ := hrel
        have HDk := Lib.hid hd1
        have HQk := Lib.hid hq1
        have HTk := Lib.hid hots
        have HOk := Lib.hid hops
        have HRk := Lib.hid hr
        have HKk := Lib.hid hkp
        have hszd := heap_lt hd1
        have hlen : (Dl.rep Dl.pjR n s6).1.length = n := Dl.rep_len _ _ _
        obtain ⟨od, cd, rfl, _, _, _⟩ := (hops.rd (T := fun _ => True) pjE_good (fun _ _ h => h.elim) (fun _ _ => trivial)).open
        have HLEN := Lib.hid hlen
        rw [hlen] at HDk HOk
        clear hlen hd1 hq1 hots hops hr hkp
        have HWQ : Hid (w.heap.size ≤ pd) := by have := HQE.out; show _ ≤ _; omega
        by_cases hlt : n < M
        · have k2 : (n : Int) < (M : Int) := by omega
          have HSN := Lib.hid (Dl.rep_snoc Dl.pjR n s6)
          generalize Dl.rep Dl.pjR n s6 = nn at *
          obtain ⟨ds, st⟩ := nn
          simp only at HOk HRk HSN HLEN
          have HMV : Hid (Dl.pjR st = (⟨(Ev.i1 st).1, (Ev.i1 (Ev.i1 st).2).1, (Ev.i1 (Ev.i1 (Ev.i1 st).2).2).1, (Ev.i1 (Ev.i1 (Ev.i1 (Ev.i1 st).2).2).2).1, (Ev.i1 (Ev.i1 (Ev.i1 (Ev.i1 (Ev.i1 st).2).2).2).2).1⟩, (Ev.i1 (Ev.i1 (Ev.i1 (Ev.i1 (Ev.i1 st).2).2).2).2).2)) := rfl
          go_wp2_with fail
          refine (HI.out _ _ HRk.out).mono ?_
          rintro r u1 ⟨rfl, hr1, hk1⟩
          generalize Ev.i1 st = M1 at hr1 HMV ⊢
          have hka : Kp 0 0 u1 (u1.alloc (.cells #[.int .i64 M1.1, .int .i64 0, .int .i64 0, .int .i64 0, .int .i64 0] 51)) := (Kp.refl _ _ _).alloc _
          have HM1 := Lib.hid (blk_one u1 (.cells #[.int .i64 M1.1, .int .i64 0, .int .i64 0, .int .i64 0, .int .i64 0] 51))
          have HU1 : Hid (Kp p (p + 1) wr (u1.alloc (.cells #[.int .i64 M1.1, .int .i64 0, .int .i64 0, .int .i64 0, .int .i64 0] 51))) := hk1.alloc _
          have HRA := Lib.hid (hr1.keep0 hka hlp)
          have HGM : Hid (wr.heap.size ≤ u1.heap.size) := hk1.size
          clear hr1 hk1 hka
          go_upto_region 19 with fail
          generalize u1.alloc (.cells #[.int .i64 M1.1, .int .i64 0, .int .i64 0, .int .i64 0, .int .i64 0] 51) = x1 at HM1 HU1 HRA ⊢
          generalize hg : u1.heap.size = g at HM1 HGM ⊢
          clear hg
          have hgf : pd < g := by have := HGM.out; omega
          go_wp2_with fail
          refine (HI.out _ _ HRA.out).mono ?_
          rintro r u2 ⟨rfl, hr2, hk2⟩
          generalize Ev.i1 M1.2 = M2 at hr2 HMV ⊢
          have hm2 := hk2.heap HM1.out (.inr (by omega))
          have y1 := blk_cell hm2 (k := 1) (u := .int .i64 0) rfl
          have z1 := blk_frozen hm2 1
          have hks := kp_set u2 g 1 (.int .i64 M2.1)
          have HM2 : Hid ((u2.setCell ⟨g, 1, none⟩ (.int .i64 M2.1)).heap[g]? = some (.cells #[.int .i64 M1.1, .int .i64 M2.1, .int .i64 0, .int .i64 0, .int .i64 0] 51 (0, 0))) := blk_set hm2 1 _
          have HR2' := Lib.hid (hr2.keep hks (fun b h1 h2 => .inl (by omega)) hlp)
          have HU2 : Hid (Kp p (p + 1) wr (u2.setCell ⟨g, 1, none⟩ (.int .i64 M2.1))) := (HU1.out.trans hk2).step hks (fun j h1 h2 => .inl (by have := HGM.out; omega))
          clear hr2 hk2 hm2 hks HM1 HRA HU1
          go_upto_region 20 with fail
          generalize u2.setCell ⟨g, 1, none⟩ (.int .i64 M2.1) = x2 at HM2 HR2' HU2 ⊢
          clear y1 z1
          go_wp2_with fail
          refine (HI.out _ _ HR2'.out).mono ?_
          rintro r u3 ⟨rfl, hr3, hk3⟩
          generalize Ev.i1 M2.2 = M3 at hr3 HMV ⊢
          have hm3 := hk3.heap HM2.out (.inr (by omega))
          have y1 := blk_cell hm3 (k := 2) (u := .int .i64 0) rfl
          have z1 := blk_frozen hm3 2
          have hks := kp_set u3 g 2 (.int .i64 M3.1)
          have HM3 : Hid ((u3.setCell ⟨g, 2, none⟩ (.int .i64 M3.1)).heap[g]? = some (.cells #[.int .i64 M1.1, .int .i64 M2.1, .int .i64 M3.1, .int .i64 0, .int .i64 0] 51 (0, 0))) := blk_set hm3 2 _
          have HR3' := Lib.hid (hr3.keep hks (fun b h1 h2 => .inl (by omega)) hlp)
          have HU3 : Hid (Kp p (p + 1) wr (u3.setCell ⟨g, 2, none⟩ (.int .i64 M3.1))) := (HU2.out.trans hk3).step hks (fun j h1 h2 => .inl (by have := HGM.out; omega))
          clear hr3 hk3 hm3 hks HM2 HR2' HU2
          go_upto_region 21 with fail
          generalize u3.setCell ⟨g, 2, none⟩ (.int .i64 M3.1) = x3 at HM3 HR3' HU3 ⊢
          clear y1 z1
          go_wp2_with fail
          refine (HI.out _ _ HR3'.out).mono ?_
          rintro r u4 ⟨rfl, hr4, hk4⟩
          generalize Ev.i1 M3.2 = M4 at hr4 HMV ⊢
          have hm4 := hk4.heap HM3.out (.inr (by omega))
          have y1 := blk_cell hm4 (k := 3) (u := .int .i64 0) rfl
          have z1 := blk_frozen hm4 3
          have hks := kp_set u4 g 3 (.int .i64 M4.1)
          have HM4 : Hid ((u4.setCell ⟨g, 3, none⟩ (.int .i64 M4.1)).heap[g]? = some (.cells #[.int .i64 M1.1, .int .i64 M2.1, .int .i64 M3.1, .int .i64 M4.1, .int .i64 0] 51 (0, 0))) := blk_set hm4 3 _
          have HR4' := Lib.hid (hr4.keep hks (fun b h1 h2 => .inl (by omega)) hlp)
          have HU4 : Hid (Kp p (p + 1) wr (u4.setCell ⟨g, 3, none⟩ (.int .i64 M4.1))) := (HU3.out.trans hk4).step hks (fun j h1 h2 => .inl (by have := HGM.out; omega))
          clear hr4 hk4 hm4 hks HM3 HR3' HU3
          go_upto_region 22 with fail
          generalize u4.setCell ⟨g, 3, none⟩ (.int .i64 M4.1) = x4 at HM4 HR4' HU4 ⊢
          clear y1 z1
          go_wp2_with fail
          refine (HI.out _ _ HR4'.out).mono ?_
          rintro r u5 ⟨rfl, hr5, hk5⟩
          generalize Ev.i1 M4.2 = M5 at hr5 HMV ⊢
          have hm5 := hk5.heap HM4.out (.inr (by omega))
          have y1 := blk_cell hm5 (k := 4) (u := .int .i64 0) rfl
          have z1 := blk_frozen hm5 4
          have hks := kp_set u5 g 4 (.int .i64 M5.1)
          have HM5 : Hid ((u5.setCell ⟨g, 4, none⟩ (.int .i64 M5.1)).heap[g]? = some (.cells #[.int .i64 M1.1, .int .i64 M2.1, .int .i64 M3.1, .int .i64 M4.1, .int .i64 M5.1] 51 (0, 0))) := blk_set hm5 4 _
          have HR5' := Lib.hid (hr5.keep hks (fun b h1 h2 => .inl (by omega)) hlp)
          have HU5 : Hid (Kp p (p + 1) wr (u5.setCell ⟨g, 4, none⟩ (.int .i64 M5.1))) := (HU4.out.trans hk5).step hks (fun j h1 h2 => .inl (by have := HGM.out; omega))
          clear hr5 hk5 hm5 hks HM4 HR4' HU4
          go_upto_region 23 with fail
          generalize u5.setCell ⟨g, 4, none⟩ (.int .i64 M5.1) = x5 at HM5 HR5' HU5 ⊢
          clear y1 z1
          have HB4 := Lib.hid (HU5.out.heap HDk.out (.inr (by omega)))
          have HQ5 := Lib.hid (HU5.out.heap HQk.out (.inl (by omega)))
          have HT5 := Lib.hid (HTk.out.keepB HU5.out (by omega))
          have HO5 := Lib.hid (HOk.out.keep pjE_good HU5.out (fun _ h => h.elim) (fun b hb => by obtain ⟨_, h, _⟩ := HOk.out; have := (ownsRow_lt h b hb).1; omega))
          have m0 := blk_cell HM5.out (k := 0) (u := .int .i64 M1.1) rfl
          have m1 := blk_cell HM5.out (k := 1) (u := .int .i64 M2.1) rfl
          have m2 := blk_cell HM5.out (k := 2) (u := .int .i64 M3.1) rfl
          have m3 := blk_cell HM5.out (k := 3) (u := .int .i64 M4.1) rfl
          have m4 := blk_cell HM5.out (k := 4) (u := .int .i64 M5.1) rfl
          have f3 := blk_cell HB4.out (k := 1) (u := .slice od n cd) rfl
          obtain ⟨xs, hrow, hsp, _⟩ := HO5.out.open (n := n) HLEN.out
          have HSP := Lib.hid hsp
          have HROW := Lib.hid hrow
          have HX4 : Hid (pd + 1 ≤ x5.heap.size) := heap_lt HB4.out
          clear hsp hrow
          go_wp2_with (at_builtin; refine wpList_append_own _ rfl _ _ 23 rfl (pd + 1) 51 tip (.agg #[.int .i64 0, .int .i64 0, .int .i64 0, .int .i64 0, .int .i64 0]) 5 40 Try.underlying23 hi3 hv0 hv1 hv2 rfl (by decide) _ _ _ rfl (HROW.out.alloc _) ⟨x5.heap.size, 0, none⟩ 1 1 [.int .i64 M1.1, .int .i64 M2.1, .int .i64 M3.1, .int .i64 M4.1, .int .i64 M5.1] rfl rfl (cell_lits _ _ _) (by simp [Value.oneCell']) ?f3 ?f4 ?f5 ?_)
          case f3 => unfold maxLen; omega
          case f4 => omega
          case f5 => have := HX4.out; simp; omega
          intro v8 w8 hown8 hg8 _
          obtain ⟨g8, c8, rfl, hg81, hg82⟩ := own_some hown8 (by omega)
          have hkx8 : Kp (pd + 1) x5.heap.size x5 w8 := ((Kp.refl _ _ _).alloc _).grown hg8 fun b hb => .inr (ownsRow_lt HROW.out b hb)
          have ht8 : Ktag 51 x5 w8 := (Ktag.of_kp ((Kp.refl 0 0 x5).alloc _)).trans (Ktag.of_grown hg8 (ownsRow_tag (HROW.out.alloc _)))
          have hp8 := ht8 pd _ _ HB4.out (by decide)
          have hq8 := hkx8.heap HQ5.out (.inl (by omega))
          have hks := kp_set w8 pd 1 (.slice (some ⟨g8, 0, none⟩) (n + 1) c8)
          have HD9 : Hid ((w8.setCell ⟨pd, 1, none⟩ (.slice (some ⟨g8, 0, none⟩) (n + 1) c8)).heap[pd]? = some (.cells #[.slice tvo k tvc, .slice (some ⟨g8, 0, none⟩) (n + 1) c8] 25 (0, 0))) := blk_set hp8 1 _
          have HQ9 := Lib.hid (hks.heap hq8 (.inl (by omega)))
          have HT9 : Hid (OwnTs (pd + 1) (w8.setCell ⟨pd, 1, none⟩ (.slice (some ⟨g8, 0, none⟩) (n + 1) c8)) (.slice tvo k tvc) TS) := (HT5.out.ktag ht8 (by decide) (by decide) (by decide)).ktag (Ktag.of_set hp8 1 _) (by decide) (by decide) (by decide)
          have HO9 : Hid (OwnS pjE 51 5 (pd + 1) (w8.setCell ⟨pd, 1, none⟩ (.slice (some ⟨g8, 0, none⟩) (n + 1) c8)) (fun _ => False) (.slice (some ⟨g8, 0, none⟩) (n + 1) c8) (ds ++ [⟨M1.1, M2.1, M3.1, M4.1, M5.1⟩])) := OwnS.ktag (fun h => h) (OwnS.flat (E := pjE) (x := (⟨M1.1, M2.1, M3.1, M4.1, M5.1⟩ : Pj)) HSP.out hown8 HLEN.out rfl (fun h => h) (by exact rfl)) (Ktag.of_set hp8 1 _) (by decide)
          have HR9 : Hid (RS p lo (w8.setCell ⟨pd, 1, none⟩ (.slice (some ⟨g8, 0, none⟩) (n + 1) c8)) L M5.2) := (HR5'.out.keep hkx8 (fun b h1 h2 => .inl (by omega)) hlp).keep hks (fun b h1 h2 => .inl (by omega)) hlp
          have HK9 : Hid (Kp p (p + 1) w (w8.setCell ⟨pd, 1, none⟩ (.slice (some ⟨g8, 0, none⟩) (n + 1) c8))) := ((HKk.out.trans HU5.out).step hkx8 (fun b h1 h2 => .inl (by have := HWQ.out; omega))).step hks (fun b h1 h2 => .inl (by have := HWQ.out; omega))
          have HSE : Hid ((Dl.rep Dl.pjR (n + 1) s6).1 = ds ++ [⟨M1.1, M2.1, M3.1, M4.1, M5.1⟩] ∧ (Dl.rep Dl.pjR (n + 1) s6).2 = M5.2) := by
            rw [HMV.out] at HSN
            exact ⟨by rw [HSN.out], by rw [HSN.out]⟩
          have c38 := blk_cell hp8 (k := 1) (u := .slice od n cd) rfl
          have f38 := blk_frozen hp8 1
          clear hown8 hg8 hkx8 ht8 hp8 hq8 hks m0 m1 m2 m3 m4 f3 HSN HMV
          go_wp2_with fail
          go_roundw
          case rel => exact ⟨n + 1, _, by omega, by go_num, HD9.out, HQ9.out, HT9.out, by rw [HSE.out.1]; exact HO9.out, by rw [HSE.out.2]; exact HR9.out, HK9.out⟩
          case measure => simp [intOf]; omega
        · obtain rfl : n = M := by omega
          have k2 : ¬ (n : Int) < (n : Int) := by omega
          generalize Dl.rep Dl.pjR n s6 = nn at *
          obtain ⟨PS, s7⟩ := nn
          simp only at HOk HRk HDC HLEN
          rw [HDC.out] at HER HGT
          simp only at HER HGT
          have HKZ : Hid (Kp 0 0 w wr) := (Kp.refl 0 0 w).step HKk.out fun j h1 h2 => .inl (by have := HQE.out; omega)
          have HDN := Lib.hid (fun W (hW : Kp 0 0 wr W) => rs_done L s7 W (HRk.out.keep0 hW hlp))
          rw [← HER.out] at HDN
          have q0' := blk_cell HQk.out (k := 0) (u := .slice none 0 0) rfl
          clear q0'
          by_cases he : Dl.err L = 0
          · rw [if_pos he] at HGT
            rw [he] at HDN
            clear he HER
            go_wp2_with fail
            refine (HDN.out _ (Kp.refl _ _ _)).mono ?_
            rintro r w8 ⟨rfl, hk8⟩
            have hd8 := hk8.heap HDk.out (.inr (Nat.zero_le _))
            have hq8 := hk8.heap HQk.out (.inr (Nat.zero_le _))
            have HT8 := Lib.hid (HTk.out.keep0 hk8)
            have HO8 := Lib.hid (HOk.out.keep0 pjE_good hk8)
            have HK8 := Lib.hid (HKZ.out.trans hk8)
            have d0 := blk_cell hd8 (k := 0) (u := .slice tvo k tvc) rfl
            have d1 := blk_cell hd8 (k := 1) (u := .slice od n cd) rfl
            have a0 := blk_cell hq8 (k := 0) (u := .slice none 0 0) rfl
            have a1 := blk_cell hq8 (k := 1) (u := .slice none 0 0) rfl
            have z0 := blk_frozen hq8 0
            have z1 := blk_frozen hq8 1
            have HST := Lib.hid (store_two hq8 rfl (.slice tvo k tvc) (.slice od n cd))
            clear hk8 hd8 hq8
            go_wp2_with fail
            obtain ⟨hst, hsk⟩ := HST.out
            generalize ((w8.setCell ⟨q, 0, none⟩ (.slice tvo k tvc)).setCell ⟨q, 1, none⟩ (.slice od n cd)) = wu at *
            have c0 := blk_cell hst (k := 0) (u := .slice tvo k tvc) rfl
            have c1 := blk_cell hst (k := 1) (u := .slice od n cd) rfl
            have hot := HT8.out.keepB hsk (by omega)
            have hop := HO8.out.keep pjE_good hsk (fun _ h => h.elim) (fun b hb => by obtain ⟨_, h, _⟩ := HO8.out; have := (ownsRow_lt h b hb).1; omega)
            have hrd := (OwnD.rd (base := pd + 1) (hi := wu.heap.size) (w := wu) (d := ⟨TS, PS⟩) ⟨hot, hop⟩ (Nat.le_refl _)).wide (T := Iv w.heap.size wu.heap.size) (fun b _ hb => ⟨by have := hb.1; have := HWQ.out; omega, hb.2⟩)
            have hkf := HK8.out.step hsk (fun j h1 h2 => .inl (by have := HQE.out; omega))
            try simp only [Exit.inBlock, Exit.then]
            refine bodyPost_ret (by simp [results, Try.results15, go_sem, c0, c1]; try rfl) rfl ?_
            rw [HGT.out]
            exact ⟨_, _, rfl, hrd, hkf⟩
          · rw [if_neg he] at HGT
            have heb : (Dl.err L != 0) = true := bne_iff_ne.2 he
            clear he HER
            generalize Dl.err L = er at *
            go_wp2_with fail
            refine (HDN.out _ (Kp.refl _ _ _)).mono ?_
            rintro r w8 ⟨rfl, hk8⟩
            have HK8 := Lib.hid hk8
            clear hk8
            go_wp2_with fail
            refine (HDN.out _ HK8.out).mono ?_
            rintro r w9 ⟨rfl, hk9⟩
            have hq9 := (HK8.out.trans hk9).heap HQk.out (.inr (Nat.zero_le _))
            have HK9 := Lib.hid (HKZ.out.trans (HK8.out.trans hk9))
            have a0 := blk_cell hq9 (k := 0) (u := .slice none 0 0) rfl
            have a1 := blk_cell hq9 (k := 1) (u := .slice none 0 0) rfl
            have z0 := blk_frozen hq9 0
            have z1 := blk_frozen hq9 1
            have HST := Lib.hid (store_two hq9 rfl (.slice none 0 0) (.slice none 0 0))
            clear hk9 hq9
            go_wp2_with fail
            obtain ⟨hst, hsk⟩ := HST.out
            generalize ((w9.setCell ⟨q, 0, none⟩ (.slice none 0 0)).setCell ⟨q, 1, none⟩ (.slice none 0 0)) = wu at *
            have c0 := blk_cell hst (k := 0) (u := .slice none 0 0) rfl
            have c1 := blk_cell hst (k := 1) (u := .slice none 0 0) rfl
            have hkf := HK9.out.step hsk (fun j h1 h2 => .inl (by have := HQE.out; omega))
            try simp only [Exit.inBlock, Exit.then]
            refine bodyPost_ret (by simp [results, Try.results15, go_sem, c0, c1]; try rfl) rfl ?_
            rw [HGT.out]
            exact ⟨_, _, rfl, ⟨RdS.nil _ _ _ _, RdS.nil _ _ _ _⟩, hkf⟩

end Go.Proofs.Ytgokhagbknlfaaa
