/-
  PackStops as a contract.
-/
import Derived.Test.YtomefjfhccicaaaShown
import Derived.Test.YtomefjfhccicaaaPlain2
import Derived.Test.YtomefjfhccicaaaRdg
namespace Go.Proofs.Ytomefjfhccicaaa
open Go.RowKit

set_option maxRecDepth 100000 in
set_option maxHeartbeats 1000000 in
theorem stops_any {h1 n : Nat} (vb vl : Value) (lb : List Int) (most : Int) (K M : Nat → Int) (w : World) (hb : RdI .u8 0 h1 w vb lb) (hl : RdR w.heap.size w vl n K M) (hin : InR n K M) (hby : ∀ y ∈ lb, 0 ≤ y ∧ y < 256) :
    Calls Try.prog 8 #[vb, .int .i64 most, vl] w fun e w' => e = .returned (.bool true) ∧ Kp 0 0 w w' := by
  obtain ⟨aob, cb, rfl, _, _, _⟩ := hb.open
  obtain ⟨aol, cl, rfl, hnc, hc63, hcl⟩ := hl
  have HB := Lib.hid hb.there
  have HCL := Lib.hid hcl
  have HIN := Lib.hid hin
  clear hb hcl hin
  by_cases hbig : 4096 < lb.length
  · go_enter Try.func8, Try.ntmps8
    go_wp2_with fail
    refine (shown_any _).mono ?_
    rintro e w1 ⟨rfl, hk⟩
    have HK := Lib.hid hk
    clear hk
    go_wp2_with fail
    go_ret
    exact ⟨rfl, HK.out⟩
  · go_enter Try.func8, Try.ntmps8
    go_wp2_with fail
    refine (int_any (lo := 0) (hi := 0) (.slice none 0 0) [] (-5) _ (RdI.nil _ _ _ _) (by decide) (by decide) (by decide)).mono ?_
    rintro e w1 ⟨v1, rfl, hown, hk⟩
    have HK1 := Lib.hid hk
    have HO1 := Lib.hid hown
    have HB1 := Lib.hid (HB.out.keep0 hk)
    clear hown hk
    go_wp2_with fail
    refine (blob_any _ _ _ lb _ HO1.out.rd HB1.out (by rw [List.nil_append]; have := enc_len (n := -5) (by decide) (by decide); omega)).mono ?_
    rintro e w2 ⟨v2, rfl, hown, hk⟩
    have HK2 := Lib.hid (HK1.out.trans hk)
    have HO2 := Lib.hid hown
    clear hown hk
    go_wp2_with fail
    refine (from_any _ _ _ HO2.out.rd (by rw [List.nil_append, List.length_append, Pk.encB, List.length_append]; have := enc_len (n := -5) (by decide) (by decide); have := enc_len (n := (lb.length : Int)) (by omega) (by omega); omega)).mono ?_
    rintro e w3 ⟨p, rfl, hp, hr, hk⟩
    rw [List.nil_append] at hr
    have HR := Lib.hid hr
    have HK3 := Lib.hid (HK2.out.trans hk)
    have hpw : w.heap.size ≤ p := by have := HK2.out.size; omega
    clear hr hk hp
    have HLB : Hid (∀ y ∈ Pk.enc (-5) ++ Pk.encB lb, 0 ≤ y ∧ y < 256) := fun y hy => by
      rw [List.mem_append] at hy
      rcases hy with hy | hy
      · exact Pk.enc_range (by decide) (by decide) y hy
      · exact Pk.encB_range (by omega) hby y hy
    have HCN : Hid (Pk.rdCnt most (Pk.enc (-5) ++ Pk.encB lb) 0 = (0, Pk.enc (-5) ++ Pk.encB lb, 3)) := by
      show _ = _
      have hn := Pk.num_enc (n := -5) (by decide) (by decide) (Pk.encB lb)
      have hc : Pk.cnt most (Pk.enc (-5) ++ Pk.encB lb) = (0, 0, 3) := by
        unfold Pk.cnt
        rw [hn, if_pos ⟨rfl, .inl (by decide)⟩]
      unfold Pk.rdCnt
      rw [if_pos rfl, hc]
      rfl
    generalize Pk.enc (-5) ++ Pk.encB lb = L at HR HLB HCN
    go_wp2_with fail
    have hc := rcount_any most L 0 _ HR.out HLB.out
    rw [HCN.out] at hc
    refine hc.mono ?_
    clear hc
    rintro e w4 ⟨rfl, hr, hk⟩
    have HR4 : Hid (Rdr p w2.heap.size w4 L 3) := hr
    have HK4 : Hid (Kp 0 0 w w4) := HK3.out.step hk fun j h _ => .inl (by omega)
    clear hr hk
    go_wp2_with fail
    have hd := done_any L 3 _ HR4.out
    rw [Pk.dne_err (by decide)] at hd
    refine hd.mono ?_
    clear hd
    rintro e w5 ⟨rfl, rfl⟩
    go_wp2_with fail
    go_loopw [8, 9] (fun i _ wr => ∃ k : Nat, k ≤ n ∧ k ≤ 40 ∧ i = .int .i64 k ∧ Rdr p w2.heap.size wr L 3 ∧ Kp 0 0 w wr) (fun i _ _ => 40 - (intOf i).toNat)
    case atStart => exact ⟨0, Nat.zero_le _, by omega, rfl, HR4.out, HK4.out⟩
    case round =>
      obtain ⟨k, hkn, hk40, rfl, hr, hkp⟩ := hrel
      have HRR := Lib.hid hr
      have HKP := Lib.hid hkp
      by_cases hlt : k < n ∧ k < 40
      · obtain ⟨h1, h2⟩ := hlt
        obtain ⟨b1, o1, rfl, hb1, hcc⟩ := (HCL.out.keep0 hkp) (by omega)
        obtain ⟨cK, cM⟩ := hcc k h1
        have hin := HIN.out k h1
        obtain ⟨⟨hi1, hi2⟩, hi3, hi4⟩ := hin
        generalize K k = kk at cK hi1 hi2
        generalize M k = mm at cM hi3 hi4
        clear hcc hr hkp
        go_wp2_with fail
        refine (pick_any kk 3 _ hi1 hi2 (by decide)).mono ?_
        rintro e w6 ⟨rfl, rfl⟩
        have h3 := pick_three kk
        generalize pick kk 3 = q at h3 ⊢
        rcases h3 with rfl | rfl | rfl
        · go_wp2_with fail
          have hc := rint_any L 3 _ HRR.out HLB.out
          rw [Pk.rdInt_err (by decide)] at hc
          refine hc.mono ?_
          clear hc
          rintro e w7 ⟨rfl, hr, hk⟩
          have HR7 : Hid (Rdr p w2.heap.size w7 L 3) := hr
          have HK7 : Hid (Kp 0 0 w w7) := HKP.out.step hk fun j h _ => .inl (by omega)
          clear hr hk
          go_wp2_with fail
          have hd := done_any L 3 _ HR7.out
          rw [Pk.dne_err (by decide)] at hd
          refine hd.mono ?_
          clear hd
          rintro e w8 ⟨rfl, rfl⟩
          go_wp2_with fail
          go_roundw
          case rel => exact ⟨k + 1, by omega, by omega, by go_num, HR7.out, HK7.out⟩
          case measure => simp [intOf]; omega
        · go_wp2_with fail
          have hc := rcount_any mm L 3 _ HRR.out HLB.out
          rw [Pk.rdCnt_err (by decide)] at hc
          refine hc.mono ?_
          clear hc
          rintro e w7 ⟨rfl, hr, hk⟩
          have HR7 : Hid (Rdr p w2.heap.size w7 L 3) := hr
          have HK7 : Hid (Kp 0 0 w w7) := HKP.out.step hk fun j h _ => .inl (by omega)
          clear hr hk
          go_wp2_with fail
          have hd := done_any L 3 _ HR7.out
          rw [Pk.dne_err (by decide)] at hd
          refine hd.mono ?_
          clear hd
          rintro e w8 ⟨rfl, rfl⟩
          go_wp2_with fail
          go_roundw
          case rel => exact ⟨k + 1, by omega, by omega, by go_num, HR7.out, HK7.out⟩
          case measure => simp [intOf]; omega
        · go_wp2_with fail
          have hc := rBlob_any L 3 _ HRR.out HLB.out
          rw [Pk.rdBlb_err (by decide)] at hc
          refine hc.mono ?_
          clear hc
          rintro e w7 ⟨⟨v7, rfl, ho⟩, hr, hk⟩
          obtain ⟨ao7, c7, rfl, _, _, _⟩ := ho.rd.open
          have HR7 : Hid (Rdr p w2.heap.size w7 L 3) := hr
          have HK7 : Hid (Kp 0 0 w w7) := HKP.out.step hk fun j h _ => .inl (by omega)
          clear hr hk ho
          go_wp2_with fail
          have hd := done_any L 3 _ HR7.out
          rw [Pk.dne_err (by decide)] at hd
          refine hd.mono ?_
          clear hd
          rintro e w8 ⟨rfl, rfl⟩
          go_wp2_with fail
          go_roundw
          case rel => exact ⟨k + 1, by omega, by omega, by go_num, HR7.out, HK7.out⟩
          case measure => simp [intOf]; omega
      · clear hr hkp
        have hlt' : n ≤ k ∨ 40 ≤ k := by omega
        rcases hlt' with h1 | h1
        · go_wp2_with fail
          refine (shown_any _).mono ?_
          rintro e w1 ⟨rfl, hk⟩
          have HKZ := Lib.hid hk
          clear hk
          go_wp2_with fail
          go_ret
          exact ⟨rfl, HKP.out.trans HKZ.out⟩
        · by_cases h2 : k < n
          · go_wp2_with fail
            refine (shown_any _).mono ?_
            rintro e w1 ⟨rfl, hk⟩
            have HKZ := Lib.hid hk
            clear hk
            go_wp2_with fail
            go_ret
            exact ⟨rfl, HKP.out.trans HKZ.out⟩
          · go_wp2_with fail
            refine (shown_any _).mono ?_
            rintro e w1 ⟨rfl, hk⟩
            have HKZ := Lib.hid hk
            clear hk
            go_wp2_with fail
            go_ret
            exact ⟨rfl, HKP.out.trans HKZ.out⟩

end Go.Proofs.Ytomefjfhccicaaa
