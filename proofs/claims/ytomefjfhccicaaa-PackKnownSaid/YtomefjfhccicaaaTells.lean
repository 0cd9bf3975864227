/-
  PackTells as a contract.
-/
import Derived.Test.YtomefjfhccicaaaShown
import Derived.Test.YtomefjfhccicaaaPlain2
import Derived.Test.YtomefjfhccicaaaRef4
import Derived.Test.YtomefjfhccicaaaRdg
import Derived.Deep.RegionHeld3
namespace Go.Proofs.Ytomefjfhccicaaa
open Go.RowKit

/-- Readings leave bytes. -/
theorem nxt_range {l : List Int} {k : Nat} {e : Int} (h : ∀ y ∈ l, 0 ≤ y ∧ y < 256) : ∀ y ∈ (Pk.nxt l k e).1, 0 ≤ y ∧ y < 256 := by
  intro y hy
  unfold Pk.nxt at hy
  split at hy
  · exact h y (List.mem_of_mem_drop hy)
  · exact h y hy
theorem rdInt_range {l : List Int} {e : Int} (h : ∀ y ∈ l, 0 ≤ y ∧ y < 256) : ∀ y ∈ (Pk.rdInt l e).2.1, 0 ≤ y ∧ y < 256 := by
  unfold Pk.rdInt
  split
  · exact nxt_range h
  · exact h
theorem rdCnt_range {m : Int} {l : List Int} {e : Int} (h : ∀ y ∈ l, 0 ≤ y ∧ y < 256) : ∀ y ∈ (Pk.rdCnt m l e).2.1, 0 ≤ y ∧ y < 256 := by
  unfold Pk.rdCnt
  split
  · exact nxt_range h
  · exact h
theorem rdBlb_range {l : List Int} {e : Int} (h : ∀ y ∈ l, 0 ≤ y ∧ y < 256) : ∀ y ∈ (Pk.rdBlb l e).2.1, 0 ≤ y ∧ y < 256 := by
  unfold Pk.rdBlb
  split
  · exact nxt_range h
  · exact h

theorem rdBlb_len (l : List Int) (e : Int) : (Pk.rdBlb l e).1.length ≤ l.length := by
  unfold Pk.rdBlb
  split
  · show (if (Pk.blb l).2.2 = 0 then (Pk.blb l).1 else []).length ≤ _
    split
    · unfold Pk.blb
      split
      · exact Nat.zero_le _
      · split
        · exact Nat.zero_le _
        · show (List.take _ (List.drop _ l)).length ≤ _
          rw [List.length_take, List.length_drop]
          omega
    · exact Nat.zero_le _
  · exact Nat.zero_le _

set_option maxRecDepth 100000 in
set_option maxHeartbeats 2000000 in
theorem tells_any {h1 n : Nat} (vb vl : Value) (lb : List Int) (K M : Nat → Int) (w : World) (hb : RdI .u8 0 h1 w vb lb) (hl : RdR w.heap.size w vl n K M) (hin : InR n K M) (hby : ∀ y ∈ lb, 0 ≤ y ∧ y < 256) :
    Calls Try.prog 4 #[vb, vl] w fun e w' => e = .returned (.bool true) ∧ Kp 0 0 w w' := by
  obtain ⟨aob, cb, rfl, _, _, _⟩ := hb.open
  obtain ⟨aol, cl, rfl, hnc, hc63, hcl⟩ := hl
  have HB := Lib.hid hb.there
  have HCL := Lib.hid hcl
  have HIN := Lib.hid hin
  clear hb hcl hin
  by_cases hbig : 8192 < lb.length
  · go_enter Try.func4, Try.ntmps4
    go_wp2_with fail
    refine (shown_any _).mono ?_
    rintro e w1 ⟨rfl, hk⟩
    have HK := Lib.hid hk
    clear hk
    go_wp2_with fail
    go_ret
    exact ⟨rfl, HK.out⟩
  · go_enter Try.func4, Try.ntmps4
    go_wp2_with fail
    refine (copy_any _ _ lb HB.out (by omega)).mono ?_
    rintro e w1 ⟨v1, rfl, hown, hk⟩
    have HK1 := Lib.hid hk
    have HO1 := Lib.hid hown
    have hs1 := hk.size
    clear hown hk
    go_wp2_with fail
    refine (from_any _ lb _ HO1.out.rd (by omega)).mono ?_
    rintro e w2 ⟨p, rfl, hp, hr, hk⟩
    have HR2 := Lib.hid hr
    have HK2 := Lib.hid (HK1.out.trans hk)
    have HO2 := Lib.hid (HO1.out.keep0 hk)
    have hs2 := hk.size
    have hpl := hr.lt
    clear hr hk
    go_wp2_with fail
    refine (refFrom_any _ lb _ (HB.out.keep0 HK2.out) (by omega)).mono ?_
    rintro e w3 ⟨q, rfl, hq, hr, hk⟩
    have HQ3 := Lib.hid hr
    have HR3 := Lib.hid (HR2.out.keep0 hk)
    have HK3 := Lib.hid (HK2.out.trans hk)
    have HO3 := Lib.hid (HO2.out.keep0 hk)
    clear hr hk
    go_wp2_with fail
    refine (spoil_any _ _ _ HO3.out (by omega)).mono ?_
    rintro e w4 ⟨rfl, hk⟩
    have HR4 := Lib.hid (HR3.out.keep hk (fun b h _ => .inr (by omega)) hp)
    have HQ4 := Lib.hid (HQ3.out.keep hk (fun b h _ => .inr (by omega)) hq)
    have HK4 : Hid (Kp 0 0 w w4) := HK3.out.step hk fun j h _ => .inl (by omega)
    clear hk
    go_wp2_with fail
    go_loopw [8, 9, 10] (fun i _ _ wr => ∃ (k : Nat) (a : Nat) (l : List Int) (er : Int), k ≤ n ∧ k ≤ 80 ∧ i = .int .i64 k ∧ (∀ y ∈ l, 0 ≤ y ∧ y < 256) ∧ lb.drop a = l ∧ Rdr p w1.heap.size wr l er ∧ RefR q w2.heap.size wr lb a er ∧ Kp 0 0 w wr) (fun i _ _ _ => 80 - (intOf i).toNat)
    case atStart => exact ⟨0, 0, lb, 0, Nat.zero_le _, by omega, rfl, hby, rfl, HR4.out, HQ4.out, HK4.out⟩
    case round =>
      obtain ⟨k, a, l, er, hkn, hk80, rfl, hlb, hal, hr, hqr, hkp⟩ := hrel
      have HRR := Lib.hid hr
      have HQR := Lib.hid hqr
      have HKP := Lib.hid hkp
      have HLB := Lib.hid hlb
      have HAL := Lib.hid hal
      clear hlb hal
      by_cases hlt : k < n ∧ k < 80
      · obtain ⟨h1, h2⟩ := hlt
        obtain ⟨b1, o1, rfl, hb1, hcc⟩ := (HCL.out.keep0 hkp) (by omega)
        obtain ⟨cK, cM⟩ := hcc k h1
        have hin := HIN.out k h1
        obtain ⟨⟨hi1, hi2⟩, hi3, hi4⟩ := hin
        generalize K k = kk at cK hi1 hi2
        generalize M k = mm at cM hi3 hi4
        clear hcc hr hqr hkp
        go_wp2_with fail
        refine (pick_any kk 3 _ hi1 hi2 (by decide)).mono ?_
        rintro e w6 ⟨rfl, rfl⟩
        have h3 := pick_three kk
        generalize pick kk 3 = q3 at h3 ⊢
        have hrl : (Pk.rdBlb l er).1.length ≤ 8192 := by
          have h1 := rdBlb_len l er
          have h2 : l.length ≤ lb.length := by rw [← HAL.out, List.length_drop]; omega
          omega
        rcases h3 with rfl | rfl | rfl
        · clear hrl
          go_wp2_with fail
          refine (rint_any l er _ HRR.out HLB.out).mono ?_
          rintro e w7 ⟨rfl, hr, hk⟩
          have HR7 := Lib.hid hr
          have HK7 : Hid (Kp 0 0 w w7) := HKP.out.step hk fun j h _ => .inl (by omega)
          have HQ7 := Lib.hid (HQR.out.keep hk (fun b h _ => .inr (by omega)) (by omega))
          have HX := Lib.hid (rdInt_range (e := er) HLB.out)
          clear hr hk
          go_wp2_with fail
          have hm := refRInt_any lb a er _ HQ7.out (by omega) hby
          rw [HAL.out] at hm
          refine hm.mono ?_
          clear hm
          rintro e w8 ⟨rfl, ⟨a', ha', hq8⟩, hk⟩
          have HR8 := Lib.hid (HR7.out.keep hk (fun b _ h => .inl (by omega)) (by omega))
          have HK8 : Hid (Kp 0 0 w w8) := HK7.out.step hk fun j h _ => .inl (by omega)
          have HQ8 := Lib.hid hq8
          have HA8 := Lib.hid ha'
          clear hk hq8 ha'
          generalize Pk.rdInt l er = res at *
          obtain ⟨r1, r2, r3⟩ := res
          have HX' : Hid (∀ y ∈ r2, 0 ≤ y ∧ y < 256) := HX.out
          have HR8' : Hid (Rdr p w1.heap.size w8 r2 r3) := HR8.out
          have HQ8' : Hid (RefR q w2.heap.size w8 lb a' r3) := HQ8.out
          have HA8' : Hid (lb.drop a' = r2) := HA8.out
          clear HR7 HQ7 HX HR8 HQ8 HA8
          have e1 : (r1 == r1) = true := by simp
          go_wp2_with fail
          have hd := done_any r2 r3 _ HR8'.out
          refine hd.mono ?_
          clear hd
          rintro e w9 ⟨rfl, rfl⟩
          go_wp2_with fail
          have hd := refDone_any lb a' r3 _ HQ8'.out
          rw [HA8'.out] at hd
          refine hd.mono ?_
          clear hd
          rintro e w10 ⟨rfl, hk⟩
          have HR10 := Lib.hid (HR8'.out.keep0 hk)
          have HQ10 := Lib.hid (HQ8'.out.keep0 hk)
          have HK10 := Lib.hid (HK8.out.trans hk)
          clear hk
          generalize Pk.dne r2 r3 = dd
          have e2 : (dd != dd) = false := by simp
          go_wp2_with fail
          go_roundw
          case rel => exact ⟨k + 1, a', r2, r3, by omega, by omega, by go_num, HX'.out, HA8'.out, HR10.out, HQ10.out, HK10.out⟩
          case measure => simp [intOf]; omega
        · clear hrl
          go_wp2_with fail
          have ik0 : (0 : Int) ≤ (k : Int) := Int.natCast_nonneg _
          have ik1 : (k : Int) < (n : Int) := by omega
          go_region_held3 (fun w' => w'.cell? ⟨b1, o1 + k * 2 + 1, none⟩ = some (.int .i64 mm))
            (first | go_keep | exact hk7.cell cM (.inl (by omega)) | exact hk8.cell (hk7.cell cM (.inl (by omega))) (.inl (by omega)))
            ((first
              | (go_at_call 23
                 refine (rcount_any mm l er _ (HRR.out.keep0 (Kp.refl 0 0 wr).drew) HLB.out).mono ?_
                 rintro e w7 ⟨rfl, hr7, hk7⟩)
              | (go_at_call 24
                 refine (refRCnt_any mm lb a er _ ((HQR.out.keep0 (Kp.refl 0 0 wr).drew).keep hk7 (fun b h _ => .inr (by omega)) (by omega)) (by omega) hby).mono ?_
                 rintro e w8 ⟨rfl, ⟨a', ha', hq8⟩, hk8⟩)))
          rw [HAL.out] at ha' hq8 ⊢
          have HR7 := Lib.hid hr7
          have HX := Lib.hid (rdCnt_range (m := mm) (e := er) HLB.out)
          have HK7 : Hid (Kp 0 0 w w7) := HKP.out.step ((Kp.refl p (p + 1) wr).drew.trans hk7) fun j h _ => .inl (by omega)
          have HR8 := Lib.hid (HR7.out.keep hk8 (fun b _ h => .inl (by omega)) (by omega))
          have HK8 : Hid (Kp 0 0 w w8) := HK7.out.step hk8 fun j h _ => .inl (by omega)
          have HQ8 := Lib.hid hq8
          have HA8 := Lib.hid ha'
          have HQ7 : Hid True := trivial
          clear hr7 hk7 hk8 hq8 ha'
          generalize Pk.rdCnt mm l er = res at *
          obtain ⟨r1, r2, r3⟩ := res
          have HX' : Hid (∀ y ∈ r2, 0 ≤ y ∧ y < 256) := HX.out
          have HR8' : Hid (Rdr p w1.heap.size w8 r2 r3) := HR8.out
          have HQ8' : Hid (RefR q w2.heap.size w8 lb a' r3) := HQ8.out
          have HA8' : Hid (lb.drop a' = r2) := HA8.out
          clear HR7 HQ7 HX HR8 HQ8 HA8
          have e1 : (r1 == r1) = true := by simp
          go_wp2_with fail
          have hd := done_any r2 r3 _ HR8'.out
          refine hd.mono ?_
          clear hd
          rintro e w9 ⟨rfl, rfl⟩
          go_wp2_with fail
          have hd := refDone_any lb a' r3 _ HQ8'.out
          rw [HA8'.out] at hd
          refine hd.mono ?_
          clear hd
          rintro e w10 ⟨rfl, hk⟩
          have HR10 := Lib.hid (HR8'.out.keep0 hk)
          have HQ10 := Lib.hid (HQ8'.out.keep0 hk)
          have HK10 := Lib.hid (HK8.out.trans hk)
          clear hk
          generalize Pk.dne r2 r3 = dd
          have e2 : (dd != dd) = false := by simp
          go_wp2_with fail
          go_roundw
          case rel => exact ⟨k + 1, a', r2, r3, by omega, by omega, by go_num, HX'.out, HA8'.out, HR10.out, HQ10.out, HK10.out⟩
          case measure => simp [intOf]; omega
        · go_wp2_with fail
          refine (rBlob_any l er _ HRR.out HLB.out).mono ?_
          rintro e w7 ⟨⟨v7, rfl, ho7⟩, hr, hk⟩
          have HO7 := Lib.hid ho7
          have HR7 := Lib.hid hr
          have HK7 : Hid (Kp 0 0 w w7) := HKP.out.step hk fun j h _ => .inl (by omega)
          have HQ7 := Lib.hid (HQR.out.keep hk (fun b h _ => .inr (by omega)) (by omega))
          have HX := Lib.hid (rdBlb_range (e := er) HLB.out)
          have HRL := Lib.hid hrl
          have hqw := HQR.out.lt
          have hpw := HRR.out.lt
          have hsz7 := hk.size
          clear hr hk ho7 hrl
          go_wp2_with fail
          have hm := refRBlb_any lb a er _ HQ7.out (by omega) hby
          rw [HAL.out] at hm
          refine hm.mono ?_
          clear hm
          rintro e w8 ⟨⟨v8, rfl, ho8⟩, ⟨a', ha', hq8⟩, hk⟩
          have HO8 := Lib.hid ho8
          have HO78 := Lib.hid (HO7.out.keep hk fun b h _ => .inr (by omega))
          have HR8 := Lib.hid (HR7.out.keep hk (fun b _ h => .inl (by omega)) (by omega))
          have HK8 : Hid (Kp 0 0 w w8) := HK7.out.step hk fun j h _ => .inl (by omega)
          have HQ8 := Lib.hid hq8
          have HA8 := Lib.hid ha'
          clear hk hq8 ha' ho8
          generalize Pk.rdBlb l er = res at *
          obtain ⟨r1, r2, r3⟩ := res
          have HX' : Hid (∀ y ∈ r2, 0 ≤ y ∧ y < 256) := HX.out
          have HR8' : Hid (Rdr p w1.heap.size w8 r2 r3) := HR8.out
          have HQ8' : Hid (RefR q w2.heap.size w8 lb a' r3) := HQ8.out
          have HA8' : Hid (lb.drop a' = r2) := HA8.out
          have HO78' : Hid (OwnI .u8 5 wr.heap.size w7.heap.size w8 v7 r1) := HO78.out
          have HO8' : Hid (OwnI .u8 5 w7.heap.size w8.heap.size w8 v8 r1) := HO8.out
          have HRL' : Hid (r1.length ≤ 8192) := HRL.out
          clear HR7 HQ7 HX HR8 HQ8 HA8 HO78 HO8 HO7 HRL
          go_wp2_with fail
          refine (same_yes _ _ _ _ HO78'.out.rd HO8'.out.rd).mono ?_
          rintro e w9 ⟨rfl, hk⟩
          have HO9 := Lib.hid (HO78'.out.keep0 hk)
          have HR9 := Lib.hid (HR8'.out.keep0 hk)
          have HQ9 := Lib.hid (HQ8'.out.keep0 hk)
          have HK9 := Lib.hid (HK8.out.trans hk)
          clear hk
          go_wp2_with fail
          refine (spoil_any _ _ _ HO9.out (by have := HRL'.out; omega)).mono ?_
          rintro e w10 ⟨rfl, hk⟩
          have HR10 := Lib.hid (HR9.out.keep hk (fun b _ h => .inl (by omega)) (by omega))
          have HQ10 := Lib.hid (HQ9.out.keep hk (fun b _ h => .inl (by omega)) (by omega))
          have HK10 : Hid (Kp 0 0 w w10) := HK9.out.step hk fun j h _ => .inl (by have := HKP.out.size; omega)
          clear hk
          go_wp2_with fail
          have hd := done_any r2 r3 _ HR10.out
          refine hd.mono ?_
          clear hd
          rintro e w11 ⟨rfl, rfl⟩
          go_wp2_with fail
          have hd := refDone_any lb a' r3 _ HQ10.out
          rw [HA8'.out] at hd
          refine hd.mono ?_
          clear hd
          rintro e w12 ⟨rfl, hk⟩
          have HR12 := Lib.hid (HR10.out.keep0 hk)
          have HQ12 := Lib.hid (HQ10.out.keep0 hk)
          have HK12 := Lib.hid (HK10.out.trans hk)
          clear hk
          generalize Pk.dne r2 r3 = dd
          have e2 : (dd != dd) = false := by simp
          go_wp2_with fail
          go_roundw
          case rel => exact ⟨k + 1, a', r2, r3, by omega, by omega, by go_num, HX'.out, HA8'.out, HR12.out, HQ12.out, HK12.out⟩
          case measure => simp [intOf]; omega
      · clear hr hqr hkp
        have hlt' : n ≤ k ∨ (k < n ∧ 80 ≤ k) := by omega
        rcases hlt' with h1 | ⟨h1, h1'⟩
        all_goals
          go_wp2_with fail
          refine (done_any l er _ HRR.out).mono ?_
          rintro e w9 ⟨rfl, rfl⟩
          go_wp2_with fail
          have hd := refDone_any lb a er _ HQR.out
          rw [HAL.out] at hd
          refine hd.mono ?_
          clear hd
          rintro e w10 ⟨rfl, hk⟩
          have HK10 := Lib.hid (HKP.out.trans hk)
          clear hk
          generalize Pk.dne l er = dd
          have e2 : (dd == dd) = true := by simp
          go_wp2_with fail
          refine (shown_any _).mono ?_
          rintro e w11 ⟨rfl, hk⟩
          have HKZ := Lib.hid hk
          clear hk
          go_wp2_with fail
          go_ret
          exact ⟨rfl, HK10.out.trans HKZ.out⟩

end Go.Proofs.Ytomefjfhccicaaa
