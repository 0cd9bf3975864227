/-
  PackForm as a contract.
-/
import Derived.Test.YtomefjfhccicaaaShown
import Derived.Test.YtomefjfhccicaaaPlain2
namespace Go.Proofs.Ytomefjfhccicaaa
open Go.RowKit

set_option maxRecDepth 100000 in
set_option maxHeartbeats 2000000 in
theorem form_any {h1 : Nat} (n : Int) (vb : Value) (lb : List Int) (w : World) (hb : RdI .u8 0 h1 w vb lb) (hby : ∀ y ∈ lb, 0 ≤ y ∧ y < 256) (n1 : -9223372036854775808 ≤ n) (n2 : n ≤ 9223372036854775807) :
    Calls Try.prog 7 #[.int .i64 n, vb] w fun e w' => e = .returned (.bool true) ∧ Kp 0 0 w w' := by
  obtain ⟨aob, cb, rfl, _, _, _⟩ := hb.open
  have HB := Lib.hid hb.there
  clear hb
  have hu : n.natAbs < 2 ^ 64 := by omega
  have hs8 := Pk.sz_le hu
  have HD := Lib.hid (Pk.div_pos_iff hu)
  have HU64 : Hid (n.natAbs < 18446744073709551616) := hu
  have HEL : Hid ((Pk.enc n).length = Pk.sz n.natAbs + 1) := Pk.enc_length n
  have HU : Hid (n.natAbs / 256 ^ 0 = n.natAbs) := by show _ = _; rw [Nat.pow_zero, Nat.div_one]
  have HNEG : Hid (n < 0 → IntKind.u64.wrap (-IntKind.u64.wrap n) = (n.natAbs : Int)) := fun h => by
    obtain ⟨u, hu⟩ := Int.eq_ofNat_of_zero_le (a := -n) (by omega)
    obtain rfl : n = -(u : Int) := by omega
    rw [neg_u64 u (by omega) (by omega)]
    omega
  have HPOS : Hid (0 ≤ n → n = (n.natAbs : Int)) := fun h => by omega
  have hx0 := int_any (lo := 0) (hi := 0) (.slice none 0 0) [] n w (RdI.nil _ _ _ _) (by decide) n1 n2
  rw [List.nil_append] at hx0
  have HX := Lib.hid hx0
  clear hx0
  go_enter Try.func7, Try.ntmps7
  go_wp2_with fail
  refine HX.out.mono ?_
  rintro e w1 ⟨v1, rfl, hown, hk⟩
  obtain ⟨ao1, c1, rfl, _, _, _⟩ := hown.rd.open
  have HK1 := Lib.hid hk
  rw [HEL.out]
  clear hown hk
  by_cases hn : n < 0
  · go_wp2_with fail
    rw [HNEG.out hn]
    generalize n.natAbs = u at *
    go_loop [6, 7] (fun x k => ∃ t : Nat, t ≤ Pk.sz u ∧ x = .int .u64 ((u / 256 ^ t : Nat) : Int) ∧ k = .int .i64 t) (fun x _ => (intOf x).toNat)
    case atStart => exact ⟨0, Nat.zero_le _, by rw [HU.out], rfl⟩
    case round =>
      obtain ⟨t, ht, rfl, rfl⟩ := hrel
      by_cases hlt : t < Pk.sz u
      · have hpos : 0 < u / 256 ^ t := (HD.out t).2 hlt
        have HS := Lib.hid (Pk.div_step u t)
        have hlt64 : u / 256 ^ t < 18446744073709551616 := Nat.lt_of_le_of_lt (Nat.div_le_self _ _) HU64.out
        generalize u / 256 ^ t = q at hpos HS hlt64
        go_wp2_with fail
        go_round
        case rel => exact ⟨t + 1, by omega, by rw [← HS.out], by go_num⟩
        case measure => simp [intOf]; omega
      · obtain rfl : t = Pk.sz u := by omega
        have hq : u / 256 ^ Pk.sz u = 0 := Nat.eq_zero_of_not_pos fun h => absurd ((HD.out _).1 h) (Nat.lt_irrefl _)
        generalize u / 256 ^ Pk.sz u = q at hq
        subst hq
        clear HD HU64 HU HNEG HPOS HEL
        generalize Pk.sz u = s at *
        have hsb : ((s : Int) + 1 != (s : Int) + 1) = false := by simp
        by_cases hbig : 4096 < lb.length
        · go_wp2_with fail
          refine (shown_any _).mono ?_
          rintro e wz ⟨rfl, hk⟩
          have HKZ := Lib.hid hk
          clear hk
          go_wp2_with fail
          go_ret
          exact ⟨rfl, HK1.out.trans HKZ.out⟩
        · go_wp2_with fail
          refine (from_any _ lb _ (HB.out.keep0 HK1.out) (by omega)).mono ?_
          rintro e w2 ⟨p, rfl, hp, hr, hk⟩
          have HR := Lib.hid hr
          have HK2 := Lib.hid (HK1.out.trans hk)
          have hpw : w.heap.size ≤ p := by have := HK1.out.size; omega
          have hpl := hr.lt
          clear hr hk hp
          go_wp2_with fail
          go_loopw [9, 10, 11, 12] (fun ag i _ _ wr => ∃ m k : Nat, k ≤ m ∧ m ≤ lb.length ∧ k ≤ 4096 ∧ i = .int .i64 k ∧ RdI .u8 (p + 1) wr.heap.size wr ag (lb.take m) ∧ Rdr p w1.heap.size wr (lb.drop m) 0 ∧ Kp 0 0 w wr) (fun _ i _ _ _ => 4096 - (intOf i).toNat)
          case atStart => exact ⟨0, 0, Nat.le_refl _, Nat.zero_le _, by omega, rfl, RdI.nil _ _ _ _, HR.out, HK2.out⟩
          case round =>
            obtain ⟨m, k, hkm, hml, hk4, rfl, hag, hrd, hkp⟩ := hrel
            have hmt : (lb.take m).length = m := by rw [List.length_take]; omega
            obtain ⟨aog, cg, rfl, _, hcg, _⟩ := hag.open
            rw [hmt] at hag ⊢
            have HAG := Lib.hid hag
            have HRD := Lib.hid hrd
            have HKP := Lib.hid hkp
            have HMT := Lib.hid hmt
            have hplr := hrd.lt
            have hsz := hkp.size
            clear hag hrd hkp hmt
            by_cases hki : k < 4096
            · have hin := rint_any (lb.drop m) 0 wr HRD.out fun y hy => hby y (List.mem_of_mem_drop hy)
              by_cases hok : (Pk.num (lb.drop m)).2.2 = 0
              · obtain ⟨hc1, hc2, hc3, hc4⟩ := Pk.num_canon (fun y hy => hby y (List.mem_of_mem_drop hy)) hok
                have hfl := (Pk.num_facts (l := lb.drop m) fun y hy => hby y (List.mem_of_mem_drop hy)).2
                have hrr : Pk.rdInt (lb.drop m) 0 = ((Pk.num (lb.drop m)).1, (lb.drop m).drop (Pk.num (lb.drop m)).2.1, 0) := by
                  unfold Pk.rdInt Pk.nxt
                  rw [if_pos rfl, if_pos hok, if_pos hok, hok]
                rw [hrr] at hin
                generalize (Pk.num (lb.drop m)).1 = v at hc1 hc3 hc4 hin
                generalize (Pk.num (lb.drop m)).2.1 = kk at hc1 hc2 hin hfl
                rw [List.length_drop] at hfl
                have HTA : Hid (lb.take m ++ Pk.enc v = lb.take (m + kk)) := by show _ = _; rw [hc1, ← List.take_add]
                have HIN := Lib.hid hin
                clear hin hrr hc1 hok
                go_wp2_with fail
                refine HIN.out.mono ?_
                rintro e w3 ⟨rfl, hr3, hk3⟩
                have HR3 : Hid (Rdr p w1.heap.size w3 (lb.drop (m + kk)) 0) := by have := hr3; rw [List.drop_drop] at this; exact this
                have HAG3 := Lib.hid (HAG.out.keep hk3 fun b h _ => .inr (by omega))
                have HK3 : Hid (Kp 0 0 w w3) := HKP.out.step hk3 fun j h _ => .inl (by omega)
                have hsz3 := hk3.size
                clear hr3 hk3
                go_wp2_with fail
                refine (int_any _ (lb.take m) v _ HAG3.out (by rw [HMT.out]; omega) hc3 hc4).mono ?_
                rintro e w4 ⟨v4, rfl, hown4, hk4'⟩
                rw [HTA.out] at hown4
                have hmt4 : (lb.take (m + kk)).length = m + kk := by rw [List.length_take]; omega
                have hr4 : RdI .u8 (p + 1) w4.heap.size w4 v4 (lb.take (m + kk)) := hown4.rd.wide (by omega) (Nat.le_refl _)
                obtain ⟨ao4, c4, rfl, _, hc4', _⟩ := hr4.open
                rw [hmt4] at hr4 ⊢
                have HR4 := Lib.hid hr4
                have HK4 : Hid (Kp 0 0 w w4) := HK3.out.trans hk4'
                have HRD4 := Lib.hid (HR3.out.keep0 hk4')
                have HB4 := Lib.hid (((HB.out.keep0 (HK3.out.trans hk4'))).pre (n := m + kk) (by omega))
                clear hown4 hk4' hr4 hmt4
                go_wp2_with fail
                refine (same_yes _ _ _ _ HR4.out HB4.out).mono ?_
                rintro e w5 ⟨rfl, hk5⟩
                have HR5 := Lib.hid ((HR4.out.keep0 hk5).wide (Nat.le_refl _) hk5.size)
                have HRD5 := Lib.hid (HRD4.out.keep0 hk5)
                have HK5 := Lib.hid (HK4.out.trans hk5)
                clear hk5
                go_wp2_with fail
                go_roundw
                case rel => exact ⟨m + kk, k + 1, by omega, by omega, by omega, by go_num, HR5.out, HRD5.out, HK5.out⟩
                case measure => simp [intOf]; omega
              · have hf := (Pk.num_facts (l := lb.drop m) fun y hy => hby y (List.mem_of_mem_drop hy)).1 hok
                have herr := Pk.num_err (lb.drop m)
                have hrr : Pk.rdInt (lb.drop m) 0 = (0, lb.drop m, (Pk.num (lb.drop m)).2.2) := by
                  unfold Pk.rdInt Pk.nxt
                  rw [if_pos rfl, if_neg hok, if_neg hok]
                have HNE : Hid (m < lb.length → lb.take m ++ [0] ≠ lb.take (m + 1)) := fun h => Pk.form_ne h hok
                have HNIL : Hid (m = lb.length → (Pk.num (lb.drop m)).2.2 = 4) := fun h => by rw [h, List.drop_length]; rfl
                have HDN : Hid (Pk.dne (lb.drop m) (Pk.num (lb.drop m)).2.2 = (Pk.num (lb.drop m)).2.2) := by show _ = _; unfold Pk.dne; rw [if_neg (fun h => hok h.1)]
                rw [hrr] at hin
                generalize (Pk.num (lb.drop m)).2.2 = er at hin herr hok HNIL HDN
                have HIN := Lib.hid hin
                clear hin hrr hf
                go_wp2_with fail
                refine HIN.out.mono ?_
                rintro e w3 ⟨rfl, hr3, hk3⟩
                have HR3 : Hid (Rdr p w1.heap.size w3 (lb.drop m) er) := hr3
                have HAG3 := Lib.hid (HAG.out.keep hk3 fun b h _ => .inr (by omega))
                have HK3 : Hid (Kp 0 0 w w3) := HKP.out.step hk3 fun j h _ => .inl (by omega)
                have hsz3 := hk3.size
                clear hr3 hk3
                go_wp2_with fail
                refine (int_any _ (lb.take m) 0 _ HAG3.out (by rw [HMT.out]; omega) (by decide) (by decide)).mono ?_
                rintro e w4 ⟨v4, rfl, hown4, hk4'⟩
                rw [Pk.enc_zero] at hown4
                have hmt4 : (lb.take m ++ [0]).length = m + 1 := by rw [List.length_append, HMT.out]; rfl
                have hr4 := hown4.rd
                obtain ⟨ao4, c4, rfl, _, hc4', _⟩ := hr4.open
                rw [hmt4] at hr4 ⊢
                have HR4 := Lib.hid hr4
                have HK4 : Hid (Kp 0 0 w w4) := HK3.out.trans hk4'
                have HRD4 := Lib.hid (HR3.out.keep0 hk4')
                clear hown4 hk4' hr4 hmt4
                by_cases hmb : m < lb.length
                · have HB4 := Lib.hid ((HB.out.keep0 HK4.out).pre (n := m + 1) (by omega))
                  have hsm := same_any _ _ _ _ _ HR4.out HB4.out
                  rw [eqB_of_ne (HNE.out hmb)] at hsm
                  have HSM := Lib.hid hsm
                  clear hsm
                  go_wp2_with fail
                  refine HSM.out.mono ?_
                  rintro e w5 ⟨rfl, hk5⟩
                  have HRD5 := Lib.hid (HRD4.out.keep0 hk5)
                  have HK5 := Lib.hid (HK4.out.trans hk5)
                  clear hk5
                  go_wp2_with fail
                  have hdn := done_any (lb.drop m) er _ HRD5.out
                  rw [HDN.out] at hdn
                  refine hdn.mono ?_
                  clear hdn
                  rintro e w6 ⟨rfl, rfl⟩
                  rcases herr with h0 | h0 | h0
                  · exact absurd h0 hok
                  · subst h0
                    go_wp2_with fail
                    refine (shown_any _).mono ?_
                    rintro e wz ⟨rfl, hk⟩
                    have HKZ := Lib.hid hk
                    clear hk
                    go_wp2_with fail
                    go_ret
                    exact ⟨rfl, HK5.out.trans HKZ.out⟩
                  · subst h0
                    go_wp2_with fail
                    refine (shown_any _).mono ?_
                    rintro e wz ⟨rfl, hk⟩
                    have HKZ := Lib.hid hk
                    clear hk
                    go_wp2_with fail
                    go_ret
                    exact ⟨rfl, HK5.out.trans HKZ.out⟩
                · go_wp2_with fail
                  have hdn := done_any (lb.drop m) er _ HRD4.out
                  rw [HDN.out] at hdn
                  refine hdn.mono ?_
                  clear hdn
                  rintro e w6 ⟨rfl, rfl⟩
                  have h0 := HNIL.out (by omega)
                  subst h0
                  go_wp2_with fail
                  refine (shown_any _).mono ?_
                  rintro e wz ⟨rfl, hk⟩
                  have HKZ := Lib.hid hk
                  clear hk
                  go_wp2_with fail
                  go_ret
                  exact ⟨rfl, HK4.out.trans HKZ.out⟩
            · have hml' : m = lb.length := by omega
              have hdn := done_any (lb.drop m) 0 _ HRD.out
              rw [hml', List.drop_length] at hdn
              have HDN := Lib.hid hdn
              clear hdn
              go_wp2_with fail
              refine HDN.out.mono ?_
              rintro e w6 ⟨rfl, rfl⟩
              have hde : Pk.dne [] 0 = 0 := by decide
              rw [hde]
              go_wp2_with fail
              refine (shown_any _).mono ?_
              rintro e wz ⟨rfl, hk⟩
              have HKZ := Lib.hid hk
              clear hk
              go_wp2_with fail
              go_ret
              exact ⟨rfl, HKP.out.trans HKZ.out⟩
  · have HPE := Lib.hid (HPOS.out (by omega))
    generalize n.natAbs = u at *
    obtain rfl : n = (u : Int) := HPE.out
    clear HPE
    go_wp2_with fail
    go_loop [6, 7] (fun x k => ∃ t : Nat, t ≤ Pk.sz u ∧ x = .int .u64 ((u / 256 ^ t : Nat) : Int) ∧ k = .int .i64 t) (fun x _ => (intOf x).toNat)
    case atStart => exact ⟨0, Nat.zero_le _, by rw [HU.out], rfl⟩
    case round =>
      obtain ⟨t, ht, rfl, rfl⟩ := hrel
      by_cases hlt : t < Pk.sz u
      · have hpos : 0 < u / 256 ^ t := (HD.out t).2 hlt
        have HS := Lib.hid (Pk.div_step u t)
        have hlt64 : u / 256 ^ t < 18446744073709551616 := Nat.lt_of_le_of_lt (Nat.div_le_self _ _) HU64.out
        generalize u / 256 ^ t = q at hpos HS hlt64
        go_wp2_with fail
        go_round
        case rel => exact ⟨t + 1, by omega, by rw [← HS.out], by go_num⟩
        case measure => simp [intOf]; omega
      · obtain rfl : t = Pk.sz u := by omega
        have hq : u / 256 ^ Pk.sz u = 0 := Nat.eq_zero_of_not_pos fun h => absurd ((HD.out _).1 h) (Nat.lt_irrefl _)
        generalize u / 256 ^ Pk.sz u = q at hq
        subst hq
        clear HD HU64 HU HNEG HPOS HEL
        generalize Pk.sz u = s at *
        have hsb : ((s : Int) + 1 != (s : Int) + 1) = false := by simp
        by_cases hbig : 4096 < lb.length
        · go_wp2_with fail
          refine (shown_any _).mono ?_
          rintro e wz ⟨rfl, hk⟩
          have HKZ := Lib.hid hk
          clear hk
          go_wp2_with fail
          go_ret
          exact ⟨rfl, HK1.out.trans HKZ.out⟩
        · go_wp2_with fail
          refine (from_any _ lb _ (HB.out.keep0 HK1.out) (by omega)).mono ?_
          rintro e w2 ⟨p, rfl, hp, hr, hk⟩
          have HR := Lib.hid hr
          have HK2 := Lib.hid (HK1.out.trans hk)
          have hpw : w.heap.size ≤ p := by have := HK1.out.size; omega
          have hpl := hr.lt
          clear hr hk hp
          go_wp2_with fail
          go_loopw [9, 10, 11, 12] (fun ag i _ _ wr => ∃ m k : Nat, k ≤ m ∧ m ≤ lb.length ∧ k ≤ 4096 ∧ i = .int .i64 k ∧ RdI .u8 (p + 1) wr.heap.size wr ag (lb.take m) ∧ Rdr p w1.heap.size wr (lb.drop m) 0 ∧ Kp 0 0 w wr) (fun _ i _ _ _ => 4096 - (intOf i).toNat)
          case atStart => exact ⟨0, 0, Nat.le_refl _, Nat.zero_le _, by omega, rfl, RdI.nil _ _ _ _, HR.out, HK2.out⟩
          case round =>
            obtain ⟨m, k, hkm, hml, hk4, rfl, hag, hrd, hkp⟩ := hrel
            have hmt : (lb.take m).length = m := by rw [List.length_take]; omega
            obtain ⟨aog, cg, rfl, _, hcg, _⟩ := hag.open
            rw [hmt] at hag ⊢
            have HAG := Lib.hid hag
            have HRD := Lib.hid hrd
            have HKP := Lib.hid hkp
            have HMT := Lib.hid hmt
            have hplr := hrd.lt
            have hsz := hkp.size
            clear hag hrd hkp hmt
            by_cases hki : k < 4096
            · have hin := rint_any (lb.drop m) 0 wr HRD.out fun y hy => hby y (List.mem_of_mem_drop hy)
              by_cases hok : (Pk.num (lb.drop m)).2.2 = 0
              · obtain ⟨hc1, hc2, hc3, hc4⟩ := Pk.num_canon (fun y hy => hby y (List.mem_of_mem_drop hy)) hok
                have hfl := (Pk.num_facts (l := lb.drop m) fun y hy => hby y (List.mem_of_mem_drop hy)).2
                have hrr : Pk.rdInt (lb.drop m) 0 = ((Pk.num (lb.drop m)).1, (lb.drop m).drop (Pk.num (lb.drop m)).2.1, 0) := by
                  unfold Pk.rdInt Pk.nxt
                  rw [if_pos rfl, if_pos hok, if_pos hok, hok]
                rw [hrr] at hin
                generalize (Pk.num (lb.drop m)).1 = v at hc1 hc3 hc4 hin
                generalize (Pk.num (lb.drop m)).2.1 = kk at hc1 hc2 hin hfl
                rw [List.length_drop] at hfl
                have HTA : Hid (lb.take m ++ Pk.enc v = lb.take (m + kk)) := by show _ = _; rw [hc1, ← List.take_add]
                have HIN := Lib.hid hin
                clear hin hrr hc1 hok
                go_wp2_with fail
                refine HIN.out.mono ?_
                rintro e w3 ⟨rfl, hr3, hk3⟩
                have HR3 : Hid (Rdr p w1.heap.size w3 (lb.drop (m + kk)) 0) := by have := hr3; rw [List.drop_drop] at this; exact this
                have HAG3 := Lib.hid (HAG.out.keep hk3 fun b h _ => .inr (by omega))
                have HK3 : Hid (Kp 0 0 w w3) := HKP.out.step hk3 fun j h _ => .inl (by omega)
                have hsz3 := hk3.size
                clear hr3 hk3
                go_wp2_with fail
                refine (int_any _ (lb.take m) v _ HAG3.out (by rw [HMT.out]; omega) hc3 hc4).mono ?_
                rintro e w4 ⟨v4, rfl, hown4, hk4'⟩
                rw [HTA.out] at hown4
                have hmt4 : (lb.take (m + kk)).length = m + kk := by rw [List.length_take]; omega
                have hr4 : RdI .u8 (p + 1) w4.heap.size w4 v4 (lb.take (m + kk)) := hown4.rd.wide (by omega) (Nat.le_refl _)
                obtain ⟨ao4, c4, rfl, _, hc4', _⟩ := hr4.open
                rw [hmt4] at hr4 ⊢
                have HR4 := Lib.hid hr4
                have HK4 : Hid (Kp 0 0 w w4) := HK3.out.trans hk4'
                have HRD4 := Lib.hid (HR3.out.keep0 hk4')
                have HB4 := Lib.hid (((HB.out.keep0 (HK3.out.trans hk4'))).pre (n := m + kk) (by omega))
                clear hown4 hk4' hr4 hmt4
                go_wp2_with fail
                refine (same_yes _ _ _ _ HR4.out HB4.out).mono ?_
                rintro e w5 ⟨rfl, hk5⟩
                have HR5 := Lib.hid ((HR4.out.keep0 hk5).wide (Nat.le_refl _) hk5.size)
                have HRD5 := Lib.hid (HRD4.out.keep0 hk5)
                have HK5 := Lib.hid (HK4.out.trans hk5)
                clear hk5
                go_wp2_with fail
                go_roundw
                case rel => exact ⟨m + kk, k + 1, by omega, by omega, by omega, by go_num, HR5.out, HRD5.out, HK5.out⟩
                case measure => simp [intOf]; omega
              · have hf := (Pk.num_facts (l := lb.drop m) fun y hy => hby y (List.mem_of_mem_drop hy)).1 hok
                have herr := Pk.num_err (lb.drop m)
                have hrr : Pk.rdInt (lb.drop m) 0 = (0, lb.drop m, (Pk.num (lb.drop m)).2.2) := by
                  unfold Pk.rdInt Pk.nxt
                  rw [if_pos rfl, if_neg hok, if_neg hok]
                have HNE : Hid (m < lb.length → lb.take m ++ [0] ≠ lb.take (m + 1)) := fun h => Pk.form_ne h hok
                have HNIL : Hid (m = lb.length → (Pk.num (lb.drop m)).2.2 = 4) := fun h => by rw [h, List.drop_length]; rfl
                have HDN : Hid (Pk.dne (lb.drop m) (Pk.num (lb.drop m)).2.2 = (Pk.num (lb.drop m)).2.2) := by show _ = _; unfold Pk.dne; rw [if_neg (fun h => hok h.1)]
                rw [hrr] at hin
                generalize (Pk.num (lb.drop m)).2.2 = er at hin herr hok HNIL HDN
                have HIN := Lib.hid hin
                clear hin hrr hf
                go_wp2_with fail
                refine HIN.out.mono ?_
                rintro e w3 ⟨rfl, hr3, hk3⟩
                have HR3 : Hid (Rdr p w1.heap.size w3 (lb.drop m) er) := hr3
                have HAG3 := Lib.hid (HAG.out.keep hk3 fun b h _ => .inr (by omega))
                have HK3 : Hid (Kp 0 0 w w3) := HKP.out.step hk3 fun j h _ => .inl (by omega)
                have hsz3 := hk3.size
                clear hr3 hk3
                go_wp2_with fail
                refine (int_any _ (lb.take m) 0 _ HAG3.out (by rw [HMT.out]; omega) (by decide) (by decide)).mono ?_
                rintro e w4 ⟨v4, rfl, hown4, hk4'⟩
                rw [Pk.enc_zero] at hown4
                have hmt4 : (lb.take m ++ [0]).length = m + 1 := by rw [List.length_append, HMT.out]; rfl
                have hr4 := hown4.rd
                obtain ⟨ao4, c4, rfl, _, hc4', _⟩ := hr4.open
                rw [hmt4] at hr4 ⊢
                have HR4 := Lib.hid hr4
                have HK4 : Hid (Kp 0 0 w w4) := HK3.out.trans hk4'
                have HRD4 := Lib.hid (HR3.out.keep0 hk4')
                clear hown4 hk4' hr4 hmt4
                by_cases hmb : m < lb.length
                · have HB4 := Lib.hid ((HB.out.keep0 HK4.out).pre (n := m + 1) (by omega))
                  have hsm := same_any _ _ _ _ _ HR4.out HB4.out
                  rw [eqB_of_ne (HNE.out hmb)] at hsm
                  have HSM := Lib.hid hsm
                  clear hsm
                  go_wp2_with fail
                  refine HSM.out.mono ?_
                  rintro e w5 ⟨rfl, hk5⟩
                  have HRD5 := Lib.hid (HRD4.out.keep0 hk5)
                  have HK5 := Lib.hid (HK4.out.trans hk5)
                  clear hk5
                  go_wp2_with fail
                  have hdn := done_any (lb.drop m) er _ HRD5.out
                  rw [HDN.out] at hdn
                  refine hdn.mono ?_
                  clear hdn
                  rintro e w6 ⟨rfl, rfl⟩
                  rcases herr with h0 | h0 | h0
                  · exact absurd h0 hok
                  · subst h0
                    go_wp2_with fail
                    refine (shown_any _).mono ?_
                    rintro e wz ⟨rfl, hk⟩
                    have HKZ := Lib.hid hk
                    clear hk
                    go_wp2_with fail
                    go_ret
                    exact ⟨rfl, HK5.out.trans HKZ.out⟩
                  · subst h0
                    go_wp2_with fail
                    refine (shown_any _).mono ?_
                    rintro e wz ⟨rfl, hk⟩
                    have HKZ := Lib.hid hk
                    clear hk
                    go_wp2_with fail
                    go_ret
                    exact ⟨rfl, HK5.out.trans HKZ.out⟩
                · go_wp2_with fail
                  have hdn := done_any (lb.drop m) er _ HRD4.out
                  rw [HDN.out] at hdn
                  refine hdn.mono ?_
                  clear hdn
                  rintro e w6 ⟨rfl, rfl⟩
                  have h0 := HNIL.out (by omega)
                  subst h0
                  go_wp2_with fail
                  refine (shown_any _).mono ?_
                  rintro e wz ⟨rfl, hk⟩
                  have HKZ := Lib.hid hk
                  clear hk
                  go_wp2_with fail
                  go_ret
                  exact ⟨rfl, HK4.out.trans HKZ.out⟩
            · have hml' : m = lb.length := by omega
              have hdn := done_any (lb.drop m) 0 _ HRD.out
              rw [hml', List.drop_length] at hdn
              have HDN := Lib.hid hdn
              clear hdn
              go_wp2_with fail
              refine HDN.out.mono ?_
              rintro e w6 ⟨rfl, rfl⟩
              have hde : Pk.dne [] 0 = 0 := by decide
              rw [hde]
              go_wp2_with fail
              refine (shown_any _).mono ?_
              rintro e wz ⟨rfl, hk⟩
              have HKZ := Lib.hid hk
              clear hk
              go_wp2_with fail
              go_ret
              exact ⟨rfl, HKP.out.trans HKZ.out⟩

end Go.Proofs.Ytomefjfhccicaaa
