/-
  PackCut as a contract.
-/
import Derived.Test.YtomefjfhccicaaaBack
namespace Go.Proofs.Ytomefjfhccicaaa
open Go.RowKit

theorem cut_whole (lf : Nat → List Int) {k n A : Nat} (h : k < n) (hA : (cat lf (k + 1)).length ≤ A) : ((cat lf n).take A).drop (cat lf k).length = lf k ++ ((cat lf n).take A).drop (cat lf (k + 1)).length := by
  have hl : (cat lf (k + 1)).length = (cat lf k).length + (lf k).length := by rw [cat, List.length_append]
  rw [List.drop_take, cat_drop lf h, List.take_append, List.take_of_length_le (by omega), List.drop_take]
  congr 2
  omega

theorem cut_part (lf : Nat → List Int) {k n A : Nat} (h : k < n) (hk : (cat lf k).length ≤ A) (hA : A < (cat lf (k + 1)).length) : ((cat lf n).take A).drop (cat lf k).length = (lf k).take (A - (cat lf k).length) ∧ A - (cat lf k).length < (lf k).length := by
  have hl : (cat lf (k + 1)).length = (cat lf k).length + (lf k).length := by rw [cat, List.length_append]
  refine ⟨?_, by omega⟩
  rw [List.drop_take, cat_drop lf h, List.take_append_of_le_length (by omega)]

theorem rdInt_short {l : List Int} (h : Pk.num l = (0, 0, 4)) : Pk.rdInt l 0 = (0, l, 4) := by
  unfold Pk.rdInt Pk.nxt
  rw [if_pos rfl, h]
  rfl

theorem rdBlb_short {l : List Int} (h : Pk.blb l = ([], 0, 4)) : Pk.rdBlb l 0 = ([], l, 4) := by
  unfold Pk.rdBlb Pk.nxt
  rw [if_pos rfl, h]
  rfl

set_option maxRecDepth 100000 in
set_option maxHeartbeats 2000000 in
theorem cut_any {n : Nat} (T : Ths) (at0 : Int) (w : World) (ao : Option Addr) (c : Nat) (a1 : -9223372036854775808 ≤ at0) (a2 : at0 ≤ 9223372036854775807) (hc63 : n ≤ c ∧ c ≤ 9223372036854775807) (hn : n ≤ 140737488351232) (hcl : ClT w.heap.size w ao n T) (hrv : RdV w.heap.size w n T) (hin : InT n T) :
    Calls Try.prog 6 #[.slice ao n c, .int .i64 at0] w fun e w' => e = .returned (.bool true) ∧ Kp 0 0 w w' := by
  have HLG := Lib.hid (long_any _ T w ao c rfl hc63 hcl hrv hin hn)
  have HSH : Hid (longB n T = false → n ≤ 100 ∧ (cat (lay T) n).length ≤ 10800 ∧ ∀ i, i < n → (T.B i).length ≤ 10800) := fun h => short_of hin h
  have HCL := Lib.hid hcl
  have HRV := Lib.hid hrv
  have HIN := Lib.hid hin
  clear hcl hrv hin
  cases hlb : longB n T with
  | true =>
    rw [hlb] at HLG
    go_enter Try.func6, Try.ntmps6
    go_wp2_with fail
    refine HLG.out.mono ?_
    rintro e w1 ⟨rfl, rfl⟩
    go_wp2_with fail
    refine (shown_any _).mono ?_
    rintro e w1 ⟨rfl, hk⟩
    have HK := Lib.hid hk
    clear hk
    go_wp2_with fail
    go_ret
    exact ⟨rfl, HK.out⟩
  | false =>
    obtain ⟨h100, hcat, hbl⟩ := HSH.out hlb
    rw [hlb] at HLG
    have HBL := Lib.hid hbl
    have HLD := Lib.hid (laid_any T w ao c hc63 HCL.out HRV.out HIN.out ⟨h100, hcat, hbl⟩)
    have HCR : Hid (∀ y ∈ cat (lay T) n, 0 ≤ y ∧ y < 256) := cat_range HIN.out n (Nat.le_refl _)
    have HC0 : Hid ((cat (lay T) 0).length = 0) := rfl
    clear hbl hlb
    go_enter Try.func6, Try.ntmps6
    go_wp2_with fail
    refine HLG.out.mono ?_
    rintro e w1 ⟨rfl, rfl⟩
    go_wp2_with fail
    refine HLD.out.mono ?_
    rintro e w2 ⟨vb, ve, rfl, hb2, he2, hk2⟩
    obtain ⟨aob, cb, rfl, hlb, _, _⟩ := hb2.open
    obtain ⟨aoe, ce, hve, hle, hce, hcle⟩ := he2.open
    rw [List.length_map, List.length_range] at hve hle
    subst hve
    have HCE := Lib.hid hcle
    have HB2 := Lib.hid hb2
    have HK2 := Lib.hid hk2
    clear hb2 hk2 he2 hcle
    go_wp2_with fail
    refine (pick_any at0 _ _ a1 a2 (by omega)).mono ?_
    rintro e w3 ⟨rfl, rfl⟩
    have hpk := pick_range (k := at0) (n := ((cat (lay T) n).length : Int) + 1) (by omega)
    generalize pick at0 (((cat (lay T) n).length : Int) + 1) = q at hpk ⊢
    obtain ⟨A, rfl⟩ := Int.eq_ofNat_of_zero_le hpk.1
    have hA : A ≤ (cat (lay T) n).length := by omega
    clear hpk
    go_wp2_with fail
    have hpre := HB2.out.pre hA
    refine (from_any _ _ _ hpre (by rw [List.length_take]; omega)).mono ?_
    rintro e w3 ⟨p, rfl, hp, hr, hk⟩
    have HR3 : Hid (Rdr p w2.heap.size w3 (((cat (lay T) n).take A).drop (cat (lay T) 0).length) 0) := hr
    have HK3 := Lib.hid (HK2.out.trans hk)
    have HK23 := Lib.hid hk
    have hpw : w.heap.size ≤ p := by have := HK2.out.size; omega
    have hpw2 : w2.heap.size ≤ p := hp
    clear hr hk hp hpre
    go_wp2_with fail
    go_loopw [8] (fun i wr => ∃ k : Nat, k ≤ n ∧ i = .int .i64 k ∧ (cat (lay T) k).length ≤ A ∧ Rdr p w2.heap.size wr (((cat (lay T) n).take A).drop (cat (lay T) k).length) 0 ∧ Kp 0 0 w2 wr) (fun i _ => n - (intOf i).toNat)
    case atStart => exact ⟨0, Nat.zero_le _, rfl, by rw [HC0.out]; omega, HR3.out, HK23.out⟩
    case round =>
      obtain ⟨k, hk, rfl, hkA, hr, hkp⟩ := hrel
      have HKP := Lib.hid hkp
      by_cases hlt : k < n
      · obtain ⟨b1, o1, rfl, hbb1, hcc⟩ := (HCL.out.keep0 (HK2.out.trans hkp)) (by omega)
        obtain ⟨cR, cN, cV⟩ := hcc k hlt
        obtain ⟨b2, o2, rfl, _, hbb2, hce2⟩ := HCE.out (by rw [List.length_map, List.length_range]; omega)
        have cE := hkp.cell (hce2 k (by rw [List.length_map, List.length_range]; omega)) (.inr (Nat.zero_le _))
        have hEk : ((List.range n).map fun i => ((cat (lay T) (i + 1)).length : Int)).getD k 0 = ((cat (lay T) (k + 1)).length : Int) := by simp [List.getD, hlt]
        rw [hEk] at cE
        clear hce2 hcc hEk
        have hcm := cat_mono (lay T) (show k + 1 ≤ n from hlt)
        by_cases hw : (cat (lay T) (k + 1)).length ≤ A
        · rw [cut_whole (lay T) hlt hw] at hr
          have HIS : Hid (∀ W, Kp 0 0 wr W → Calls Try.prog 31 #[.pointer (some ⟨p, 0, none⟩), .agg #[.bool (T.R k), .int .i64 (T.N k), T.V k]] W fun e w' => e = .returned (.bool true) ∧ Rdr p w2.heap.size w' (((cat (lay T) n).take A).drop (cat (lay T) (k + 1)).length) 0 ∧ Kp p (p + 1) W w') := fun W hW =>
            is_any (n := n) T _ W (fun i hi => (((HRV.out i hi).keep0 (HK2.out.trans hkp)).keep0 hW).wide (Nat.zero_le _) hpw) HIN.out hlt (HBL.out k hlt) (hr.keep0 hW) (by
              rw [← cut_whole (lay T) hlt hw]
              exact fun y hy => HCR.out y (List.mem_of_mem_take (List.mem_of_mem_drop hy)))
          have HDQ : Hid ((Pk.dne (((cat (lay T) n).take A).drop (cat (lay T) (k + 1)).length) 0 == 0) = ((((cat (lay T) (k + 1)).length : Nat) : Int) == (A : Int))) := by
            show _ = _
            by_cases hq : (cat (lay T) (k + 1)).length = A
            · have : ((cat (lay T) n).take A).drop (cat (lay T) (k + 1)).length = [] := List.drop_eq_nil_of_le (by rw [List.length_take]; omega)
              rw [this, hq]
              simp [Pk.dne]
            · have hne : ((cat (lay T) n).take A).drop (cat (lay T) (k + 1)).length ≠ [] := fun e => by
                have := congrArg List.length e
                rw [List.length_drop, List.length_take, List.length_nil] at this
                omega
              have h5 : Pk.dne (((cat (lay T) n).take A).drop (cat (lay T) (k + 1)).length) 0 = 5 := by unfold Pk.dne; rw [if_pos ⟨rfl, hne⟩]
              rw [h5, show ((5 : Int) == 0) = false by decide, eq_comm, beq_eq_false_iff_ne]
              omega
          generalize hDN : Pk.dne (((cat (lay T) n).take A).drop (cat (lay T) (k + 1)).length) 0 = dn at HDQ
          have HDN := Lib.hid hDN
          clear hDN
          generalize hE1 : (cat (lay T) (k + 1)).length = E1 at *
          have HE1 := Lib.hid hE1
          generalize T.R k = rk at cR HIS
          generalize T.N k = nk at cN HIS
          obtain ⟨aov, cv, hv, _, _, _⟩ := (HRV.out k hlt).open
          rw [hv] at cV HIS
          have ik0 : (0 : Int) ≤ (k : Int) := Int.natCast_nonneg _
          have ik1 : (k : Int) < (n : Int) := by omega
          clear hr hkp hv hE1
          go_wp2_with fail
          go_region_held3 (fun w' => w'.cell? ⟨b1, o1 + k * 3, none⟩ = some (.bool rk) ∧ w'.cell? ⟨b1, o1 + k * 3 + 1, none⟩ = some (.int .i64 nk) ∧ w'.cell? ⟨b1, o1 + k * 3 + 2, none⟩ = some (.slice aov (T.B k).length cv) ∧ w'.cell? ⟨b2, o2 + k, none⟩ = some (.int .i64 (E1 : Int)))
            (first | go_keep | exact ⟨hk7.cell cR (.inl (by omega)), hk7.cell cN (.inl (by omega)), hk7.cell cV (.inl (by omega)), hk7.cell cE (.inl (by omega))⟩)
            ((first
              | (go_at_call 31
                 refine (HIS.out _ (Kp.refl 0 0 wr).drew).mono ?_
                 rintro e w7 ⟨rfl, hr7, hk7⟩)
              | (go_at_call 27
                 refine (done_any _ 0 _ hr7).mono ?_
                 rintro e w8 ⟨rfl, rfl⟩)))
          have HR7 := Lib.hid hr7
          have HK7 : Hid (Kp 0 0 w2 w7) := HKP.out.step ((Kp.refl p (p + 1) wr).drew.trans hk7) fun j h _ => .inl (by omega)
          clear hr7 hk7
          rw [HDN.out]
          have hdq : ((dn == 0) == ((E1 : Int) == (A : Int))) = true := by
            rw [HDQ.out]
            cases ((E1 : Int) == (A : Int)) <;> rfl
          have HDD := Lib.hid hdq
          clear hdq
          go_wp2_with fail
          · exfalso
            have hb : (!((dn == 0) == ((E1 : Int) == (A : Int)))) = true := by assumption
            rw [HDD.out] at hb
            cases hb
          go_roundw
          case rel => exact ⟨k + 1, by omega, by go_num, by rw [HE1.out]; exact hw, by rw [HE1.out]; exact HR7.out, HK7.out⟩
          case measure => simp [intOf]; omega
        · obtain ⟨hp1, hp2⟩ := cut_part (lay T) hlt hkA (by omega)
          rw [hp1] at hr
          have hly : lay T k = if T.R k then Pk.encB (T.B k) else Pk.enc (T.N k) := rfl
          have hbk := HBL.out k hlt
          obtain ⟨⟨hn1, hn2⟩, _, _⟩ := HIN.out k hlt
          generalize hj : A - (cat (lay T) k).length = j at hr hp2
          have HLA0 : Hid (∀ y ∈ (lay T k).take j, 0 ≤ y ∧ y < 256) := fun y hy => lay_range HIN.out hlt y (List.mem_of_mem_take hy)
          have hw' : ¬ (((cat (lay T) (k + 1)).length : Int) ≤ (A : Int)) := by omega
          generalize (cat (lay T) (k + 1)).length = E1 at *
          cases hR : T.R k with
          | true =>
            rw [hR] at cR
            rw [hR, if_pos rfl] at hly
            have HSHORT : Hid (Pk.rdBlb ((lay T k).take j) 0 = ([], (lay T k).take j, 4)) := by
              show _ = _
              rw [hly] at hp2 ⊢
              exact rdBlb_short (Pk.blb_cut (by omega) hp2)
            generalize (lay T k).take j = l at hr HLA0 HSHORT
            have HRL := Lib.hid hr
            have HLA := HLA0
            clear hr hkp hp1 hj hly
            go_wp2_with fail
            have hc := rBlob_any l 0 _ HRL.out HLA.out
            rw [HSHORT.out] at hc
            refine hc.mono ?_
            clear hc
            rintro e wa ⟨⟨va, rfl, ho⟩, hr, hk⟩
            obtain ⟨aoy, cy, rfl, _, _, _⟩ := ho.rd.open
            have HRA : Hid (Rdr p w2.heap.size wa l 4) := hr
            have HKA : Hid (Kp 0 0 w wa) := (HK2.out.trans HKP.out).step hk fun j h _ => .inl (by omega)
            clear hr hk ho
            go_wp2_with fail
            refine (done_any l 4 _ HRA.out).mono ?_
            rw [Pk.dne_err (by decide)]
            rintro e wb ⟨rfl, rfl⟩
            go_wp2_with fail
            have hc := rint_any l 4 _ HRA.out HLA.out
            rw [Pk.rdInt_err (by decide)] at hc
            refine hc.mono ?_
            clear hc
            rintro e wc ⟨rfl, hr, hk⟩
            have HRC : Hid (Rdr p w2.heap.size wc l 4) := hr
            have HKC : Hid (Kp 0 0 w wc) := HKA.out.step hk fun j h _ => .inl (by omega)
            clear hr hk
            go_wp2_with fail
            have hc := rcount_any 9 l 4 _ HRC.out HLA.out
            rw [Pk.rdCnt_err (by decide)] at hc
            refine hc.mono ?_
            clear hc
            rintro e wd ⟨rfl, hr, hk⟩
            have HRD : Hid (Rdr p w2.heap.size wd l 4) := hr
            have HKD : Hid (Kp 0 0 w wd) := HKC.out.step hk fun j h _ => .inl (by omega)
            clear hr hk
            go_wp2_with fail
            have hc := rBlob_any l 4 _ HRD.out HLA.out
            rw [Pk.rdBlb_err (by decide)] at hc
            refine hc.mono ?_
            clear hc
            rintro e we ⟨⟨ve, rfl, ho⟩, hr, hk⟩
            obtain ⟨aoz, cz, rfl, _, _, _⟩ := ho.rd.open
            have HRE : Hid (Rdr p w2.heap.size we l 4) := hr
            have HKE : Hid (Kp 0 0 w we) := HKD.out.step hk fun j h _ => .inl (by omega)
            clear hr hk ho
            go_wp2_with fail
            refine (done_any l 4 _ HRE.out).mono ?_
            rw [Pk.dne_err (by decide)]
            rintro e wf ⟨rfl, rfl⟩
            go_wp2_with fail
            refine (shown_any _).mono ?_
            rintro e wz ⟨rfl, hk⟩
            have HKZ := Lib.hid hk
            clear hk
            go_wp2_with fail
            go_ret
            exact ⟨rfl, HKE.out.trans HKZ.out⟩
          | false =>
            rw [hR] at cR
            rw [hR, if_neg (by decide)] at hly
            have HSHORT : Hid (Pk.rdInt ((lay T k).take j) 0 = (0, (lay T k).take j, 4)) := by
              show _ = _
              rw [hly] at hp2 ⊢
              exact rdInt_short (Pk.num_cut hn1 hn2 hp2)
            generalize (lay T k).take j = l at hr HLA0 HSHORT
            have HRL := Lib.hid hr
            have HLA := HLA0
            clear hr hkp hp1 hj hly
            go_wp2_with fail
            have hc := rint_any l 0 _ HRL.out HLA.out
            rw [HSHORT.out] at hc
            refine hc.mono ?_
            clear hc
            rintro e wa ⟨rfl, hr, hk⟩
            have HRA : Hid (Rdr p w2.heap.size wa l 4) := hr
            have HKA : Hid (Kp 0 0 w wa) := (HK2.out.trans HKP.out).step hk fun j h _ => .inl (by omega)
            clear hr hk
            go_wp2_with fail
            refine (done_any l 4 _ HRA.out).mono ?_
            rw [Pk.dne_err (by decide)]
            rintro e wb ⟨rfl, rfl⟩
            go_wp2_with fail
            have hc := rint_any l 4 _ HRA.out HLA.out
            rw [Pk.rdInt_err (by decide)] at hc
            refine hc.mono ?_
            clear hc
            rintro e wc ⟨rfl, hr, hk⟩
            have HRC : Hid (Rdr p w2.heap.size wc l 4) := hr
            have HKC : Hid (Kp 0 0 w wc) := HKA.out.step hk fun j h _ => .inl (by omega)
            clear hr hk
            go_wp2_with fail
            have hc := rcount_any 9 l 4 _ HRC.out HLA.out
            rw [Pk.rdCnt_err (by decide)] at hc
            refine hc.mono ?_
            clear hc
            rintro e wd ⟨rfl, hr, hk⟩
            have HRD : Hid (Rdr p w2.heap.size wd l 4) := hr
            have HKD : Hid (Kp 0 0 w wd) := HKC.out.step hk fun j h _ => .inl (by omega)
            clear hr hk
            go_wp2_with fail
            have hc := rBlob_any l 4 _ HRD.out HLA.out
            rw [Pk.rdBlb_err (by decide)] at hc
            refine hc.mono ?_
            clear hc
            rintro e we ⟨⟨ve, rfl, ho⟩, hr, hk⟩
            obtain ⟨aoz, cz, rfl, _, _, _⟩ := ho.rd.open
            have HRE : Hid (Rdr p w2.heap.size we l 4) := hr
            have HKE : Hid (Kp 0 0 w we) := HKD.out.step hk fun j h _ => .inl (by omega)
            clear hr hk ho
            go_wp2_with fail
            refine (done_any l 4 _ HRE.out).mono ?_
            rw [Pk.dne_err (by decide)]
            rintro e wf ⟨rfl, rfl⟩
            go_wp2_with fail
            refine (shown_any _).mono ?_
            rintro e wz ⟨rfl, hk⟩
            have HKZ := Lib.hid hk
            clear hk
            go_wp2_with fail
            go_ret
            exact ⟨rfl, HKE.out.trans HKZ.out⟩
      · obtain rfl : n = k := by omega
        have hnil : ((cat (lay T) n).take A).drop (cat (lay T) n).length = [] := List.drop_eq_nil_of_le (by rw [List.length_take]; omega)
        rw [hnil] at hr
        have HSHORT : Hid (Pk.rdInt [] 0 = (0, [], 4)) := rdInt_short rfl
        have HLA : Hid (∀ y ∈ ([] : List Int), 0 ≤ y ∧ y < 256) := fun y hy => by cases hy
        generalize ([] : List Int) = l at hr HLA HSHORT
        have HRL := Lib.hid hr
        clear hr hkp hnil
        go_wp2_with fail
        have hc := rint_any l 0 _ HRL.out HLA.out
        rw [HSHORT.out] at hc
        refine hc.mono ?_
        clear hc
        rintro e wa ⟨rfl, hr, hk⟩
        have HRA : Hid (Rdr p w2.heap.size wa l 4) := hr
        have HKA : Hid (Kp 0 0 w wa) := (HK2.out.trans HKP.out).step hk fun j h _ => .inl (by omega)
        clear hr hk
        go_wp2_with fail
        refine (done_any l 4 _ HRA.out).mono ?_
        rw [Pk.dne_err (by decide)]
        rintro e wb ⟨rfl, rfl⟩
        go_wp2_with fail
        have hc := rint_any l 4 _ HRA.out HLA.out
        rw [Pk.rdInt_err (by decide)] at hc
        refine hc.mono ?_
        clear hc
        rintro e wc ⟨rfl, hr, hk⟩
        have HRC : Hid (Rdr p w2.heap.size wc l 4) := hr
        have HKC : Hid (Kp 0 0 w wc) := HKA.out.step hk fun j h _ => .inl (by omega)
        clear hr hk
        go_wp2_with fail
        have hc := rcount_any 9 l 4 _ HRC.out HLA.out
        rw [Pk.rdCnt_err (by decide)] at hc
        refine hc.mono ?_
        clear hc
        rintro e wd ⟨rfl, hr, hk⟩
        have HRD : Hid (Rdr p w2.heap.size wd l 4) := hr
        have HKD : Hid (Kp 0 0 w wd) := HKC.out.step hk fun j h _ => .inl (by omega)
        clear hr hk
        go_wp2_with fail
        have hc := rBlob_any l 4 _ HRD.out HLA.out
        rw [Pk.rdBlb_err (by decide)] at hc
        refine hc.mono ?_
        clear hc
        rintro e we ⟨⟨ve, rfl, ho⟩, hr, hk⟩
        obtain ⟨aoz, cz, rfl, _, _, _⟩ := ho.rd.open
        have HRE : Hid (Rdr p w2.heap.size we l 4) := hr
        have HKE : Hid (Kp 0 0 w we) := HKD.out.step hk fun j h _ => .inl (by omega)
        clear hr hk ho
        go_wp2_with fail
        refine (done_any l 4 _ HRE.out).mono ?_
        rw [Pk.dne_err (by decide)]
        rintro e wf ⟨rfl, rfl⟩
        go_wp2_with fail
        refine (shown_any _).mono ?_
        rintro e wz ⟨rfl, hk⟩
        have HKZ := Lib.hid hk
        clear hk
        go_wp2_with fail
        go_ret
        exact ⟨rfl, HKE.out.trans HKZ.out⟩

end Go.Proofs.Ytomefjfhccicaaa
