/-
  The contracts of package quaysideref01's functions that lay bytes.
-/
import Derived.Test.YtgokhagbknlfaaaCodeI
namespace Go.Proofs.Ytgokhagbknlfaaa
open Go.RowKit
set_option maxRecDepth 100000

theorem size_any (n : Int) (w : World) (h1 : -9223372036854775808 ≤ n) (h2 : n ≤ 9223372036854775807) :
    Calls Try.prog 44 #[.int .i64 n] w fun e w' => e = .returned (.int .u64 (n.natAbs : Int)) ∧ w = w' := by
  by_cases h : 0 ≤ n
  · obtain ⟨u, rfl⟩ := Int.eq_ofNat_of_zero_le h
    go_enter Try.func44, Try.ntmps44
    go_wp2
    go_ret
    exact ⟨rfl, rfl⟩
  · obtain ⟨u, hu⟩ := Int.eq_ofNat_of_zero_le (a := -n) (by omega)
    obtain rfl : n = -(u : Int) := by omega
    have HX : Hid ((-(u : Int)).natAbs = u) := by show _ = _; omega
    have h0 : 0 < u := by omega
    have h3 : u ≤ 9223372036854775808 := by omega
    clear hu h h1 h2
    go_enter Try.func44, Try.ntmps44
    go_wp2
    rw [neg_u64 u h0 h3, HX.out]
    go_ret
    exact ⟨rfl, rfl⟩

set_option maxHeartbeats 800000 in
theorem refInt_any {lo hi : Nat} (vb : Value) (lb : List Int) (n : Int) (w : World) (hb : RdI .u8 lo hi w vb lb) (hl : lb.length ≤ 140737488350000) (h1 : -9223372036854775808 ≤ n) (h2 : n ≤ 9223372036854775807) :
    Calls Try.prog 25 #[vb, .int .i64 n] w fun e w' => ∃ v', e = .returned v' ∧ OwnI .u8 5 w.heap.size w'.heap.size w' v' (lb ++ Pk.enc n) ∧ Kp 0 0 w w' := by
  obtain ⟨i0, hi, hz0, hz1, hz2⟩ := info_parts info_u8
  obtain ⟨ao, c, rfl, _, _, _⟩ := hb.open
  have HB := Lib.hid hb
  clear hb
  have hu : n.natAbs < 2 ^ 64 := by omega
  have hs8 := Pk.sz_le hu
  have HD := Lib.hid (Pk.div_pos_iff hu)
  have HE : Hid (Pk.enc n = Pk.hd n :: Pk.be n.natAbs) := rfl
  have HHD : Hid (Pk.hd n = (Pk.sz n.natAbs : Int) + if n < 0 then 16 else 0) := rfl
  have HT : Hid (∀ k, k < Pk.sz n.natAbs → (Pk.be n.natAbs).take (k + 1) = (Pk.be n.natAbs).take k ++ [Pk.dig n.natAbs (Pk.sz n.natAbs - 1 - k)]) := fun k hk => Pk.be_take hk
  have HL : Hid ((Pk.be n.natAbs).take (Pk.sz n.natAbs) = Pk.be n.natAbs) := List.take_of_length_le (Nat.le_of_eq (Pk.be_length _))
  have HBL : Hid ((Pk.be n.natAbs).length = Pk.sz n.natAbs) := Pk.be_length _
  have HU : Hid (n.natAbs / 256 ^ 0 = n.natAbs) := by show _ = _; rw [Nat.pow_zero, Nat.div_one]
  go_enter Try.func25, Try.ntmps25
  go_wp2_with fail
  refine (size_any n _ h1 h2).mono ?_
  rintro e w1 ⟨rfl, rfl⟩
  generalize n.natAbs = u at *
  have HU64 : Hid (u < 18446744073709551616) := hu
  clear hu
  go_wp2_with fail
  go_loopw [5, 6] (fun v' x wr => ∃ t : Nat, t ≤ Pk.sz u ∧ x = .int .u64 ((u / 256 ^ t : Nat) : Int) ∧ wr.ownsRow w.heap.size 5 1 v' t ((Pk.lowL u t).map (.int .u8)) ∧ Kp 0 0 w wr) (fun _ x _ => (intOf x).toNat)
  case atStart => exact ⟨0, Nat.zero_le _, by rw [HU.out], World.ownsRow_nil _ _ _ _, Kp.refl _ _ _⟩
  case round =>
    obtain ⟨t, ht, rfl, hown, hkp⟩ := hrel
    by_cases hlt : t < Pk.sz u
    · have hpos : 0 < u / 256 ^ t := (HD.out t).2 hlt
      have HS := Lib.hid (Pk.div_step u t)
      have HG := Lib.hid (Pk.dig_eq u t)
      have hlt64 : u / 256 ^ t < 18446744073709551616 := Nat.lt_of_le_of_lt (Nat.div_le_self _ _) HU64.out
      generalize u / 256 ^ t = q at hpos HS HG hlt64
      have hsz := hkp.size
      go_wp2_with (at_builtin; refine wpList_append_own _ rfl _ _ 26 rfl w.heap.size 5 i0 (.int .u8 0) 1 1 Try.underlying26 hi hz0 hz1 hz2 rfl (by decide) _ _ _ rfl (hown.alloc _) ⟨wr.heap.size, 0, none⟩ 1 1 [.int .u8 ((q : Int) % 256)] rfl rfl (cell_one _ _ _) (by simp [Value.oneCell']) ?c3 ?c4 ?c5 ?_)
      case c3 => unfold maxLen; omega
      case c4 => omega
      case c5 => simp; omega
      intro v' w2 hown' hg _
      have HK := Lib.hid ((hkp.alloc _).grown hg fun j hj => .inl ((hown.lt j hj).1))
      have HO := Lib.hid hown'
      clear hown' hg hown hkp
      go_wp2_with fail
      go_roundw
      case rel =>
        refine ⟨t + 1, by omega, by rw [← HS.out], ?_, HK.out⟩
        have ho := HO.out
        rw [HG.out] at ho
        rw [Pk.lowL_succ]
        simpa using ho
      case measure => simp [intOf]; omega
    · obtain rfl : t = Pk.sz u := by omega
      obtain ⟨wo, rfl⟩ : ∃ wo : World, wo = wr := ⟨_, rfl⟩
      have hq : u / 256 ^ Pk.sz u = 0 := Nat.eq_zero_of_not_pos fun h => absurd ((HD.out _).1 h) (Nat.lt_irrefl _)
      generalize u / 256 ^ Pk.sz u = q at hq
      subst hq
      have HLG : Hid (∀ j, j < Pk.sz u → (Pk.lowL u (Pk.sz u)).getD j 0 = Pk.dig u j) := fun j hj => Pk.lowL_getD hj
      have HLL : Hid ((Pk.lowL u (Pk.sz u)).length = Pk.sz u) := Pk.lowL_length _ _
      generalize Pk.lowL u (Pk.sz u) = low at hown HLG HLL
      have hrd : RdI .u8 w.heap.size wo.heap.size wo u5 low := (OwnI.of_rowN hown HLL.out).rd
      clear hown
      obtain ⟨aol, cl, rfl, _, _, hcl⟩ := hrd.open
      have HCL : Hid (Cl .u8 w.heap.size wo.heap.size wo aol low) := hcl
      clear hcl hrd
      rw [HLL.out]
      generalize Pk.sz u = s at *
      have HBW := Lib.hid (HB.out.keep0 hkp)
      have HKP := Lib.hid hkp
      clear hkp
      by_cases hn : n < 0
      · have HHH : Hid (Pk.hd n = (s : Int) + 16) := by show _ = _; rw [HHD.out, if_pos hn]
        go_wp2_with (at_builtin; refine wpList_app rfl (.tmp 28) (.tmp 29) 26 rfl wo.heap.size 5 .u8 1 Try.underlying26 info_u8 _ 0 [] rfl (World.ownsRow_nil _ _ _ _) _ rfl lb HBW.out (by unfold maxLen; omega) (by omega) (Nat.le_refl _) ?_)
        intro v2 w2 hown2 hg2
        try simp only [List.nil_append, Nat.zero_add] at hown2
        have HK2 : Hid (Kp 0 0 wo w2) := (Kp.refl 0 0 wo).grown hg2 fun j hj => by simp [Value.ownBlock] at hj
        clear hg2
        have hsz2 := HK2.out.size
        go_wp2_with (at_builtin; refine wpList_append_own _ rfl (.tmp 31) (.tmp 34) 26 rfl wo.heap.size 5 i0 (.int .u8 0) 1 1 Try.underlying26 hi hz0 hz1 hz2 rfl (by decide) _ _ _ rfl (hown2.alloc _) ⟨w2.heap.size, 0, none⟩ 1 1 [.int .u8 ((s : Int) + 16)] rfl rfl (cell_one _ _ _) (by simp [Value.oneCell']) (by unfold maxLen; omega) (by omega) (by simp; omega) ?_)
        intro v3 w3 hown3 hg3 _
        have HK3 : Hid (Kp 0 0 wo w3) := (HK2.out.alloc _).grown hg3 fun j hj => .inl ((hown2.lt j hj).1)
        have HO3 : Hid (w3.ownsRow wo.heap.size 5 1 v3 (lb.length + 1 + 0) (((lb ++ ((s : Int) + 16) :: (Pk.be u).take 0)).map (.int .u8))) := by
          show World.ownsRow _ _ _ _ _ _ _
          simpa using hown3
        clear hown3 hg3 hown2 hsz2
        go_wp2_with fail
        go_loopw [8, 9] (fun v' i wr => ∃ k : Nat, k ≤ s ∧ i = .int .i64 ((s : Int) - 1 - k) ∧ wr.ownsRow wo.heap.size 5 1 v' (lb.length + 1 + k) (((lb ++ ((s : Int) + 16) :: (Pk.be u).take k)).map (.int .u8)) ∧ Kp 0 0 wo wr) (fun _ i _ => (intOf i + 1).toNat)
        case atStart => exact ⟨0, Nat.zero_le _, by simp, HO3.out, HK3.out⟩
        case round =>
          obtain ⟨k, hk, rfl, hown, hkp⟩ := hrel
          by_cases hlk : k < s
          · obtain ⟨b1, o1, rfl, _, _, hc1⟩ := HCL.out (by rw [HLL.out]; omega)
            have c1 := hkp.cell (hc1 (s - 1 - k) (by rw [HLL.out]; omega)) (.inr (Nat.zero_le _))
            rw [HLG.out _ (by omega)] at c1
            clear hc1
            have HS := Lib.hid (HT.out k hlk)
            generalize Pk.dig u (s - 1 - k) = x at c1 HS
            have hsz := hkp.size
            go_wp2_with (at_builtin; refine wpList_append_own _ rfl _ _ 26 rfl wo.heap.size 5 i0 (.int .u8 0) 1 1 Try.underlying26 hi hz0 hz1 hz2 rfl (by decide) _ _ _ rfl (hown.alloc _) ⟨wr.heap.size, 0, none⟩ 1 1 [.int .u8 x] rfl rfl (cell_one _ _ _) (by simp [Value.oneCell']) (by unfold maxLen; omega) (by omega) (by simp; omega) ?_)
            intro v4 w4 hown4 hg4 _
            have HK4 := Lib.hid ((hkp.alloc _).grown hg4 fun j hj => .inl ((hown.lt j hj).1))
            have HO4 := Lib.hid hown4
            clear hown4 hg4 hown hkp
            go_wp2_with fail
            go_roundw
            case rel =>
              refine ⟨k + 1, by omega, by go_num, ?_, HK4.out⟩
              have ho := HO4.out
              rw [HS.out]
              rw [← Nat.add_assoc]
              simpa using ho
            case measure => simp [intOf]; omega
          · obtain rfl : k = s := by omega
            go_wp2_with fail
            go_ret
            refine ⟨_, rfl, ?_, HKP.out.trans hkp⟩
            rw [HE.out, HHH.out, ← HL.out]
            refine (OwnI.of_rowN hown ?_).wide HKP.out.size (Nat.le_refl _)
            rw [List.length_append, List.length_cons, HL.out, HBL.out]
            omega
      · have HHH : Hid (Pk.hd n = (s : Int)) := by show _ = _; rw [HHD.out, if_neg hn, Int.add_zero]
        go_wp2_with (at_builtin; refine wpList_app rfl (.tmp 28) (.tmp 29) 26 rfl wo.heap.size 5 .u8 1 Try.underlying26 info_u8 _ 0 [] rfl (World.ownsRow_nil _ _ _ _) _ rfl lb HBW.out (by unfold maxLen; omega) (by omega) (Nat.le_refl _) ?_)
        intro v2 w2 hown2 hg2
        try simp only [List.nil_append, Nat.zero_add] at hown2
        have HK2 : Hid (Kp 0 0 wo w2) := (Kp.refl 0 0 wo).grown hg2 fun j hj => by simp [Value.ownBlock] at hj
        clear hg2
        have hsz2 := HK2.out.size
        go_wp2_with (at_builtin; refine wpList_append_own _ rfl (.tmp 31) (.tmp 34) 26 rfl wo.heap.size 5 i0 (.int .u8 0) 1 1 Try.underlying26 hi hz0 hz1 hz2 rfl (by decide) _ _ _ rfl (hown2.alloc _) ⟨w2.heap.size, 0, none⟩ 1 1 [.int .u8 ((s : Int))] rfl rfl (cell_one _ _ _) (by simp [Value.oneCell']) (by unfold maxLen; omega) (by omega) (by simp; omega) ?_)
        intro v3 w3 hown3 hg3 _
        have HK3 : Hid (Kp 0 0 wo w3) := (HK2.out.alloc _).grown hg3 fun j hj => .inl ((hown2.lt j hj).1)
        have HO3 : Hid (w3.ownsRow wo.heap.size 5 1 v3 (lb.length + 1 + 0) (((lb ++ ((s : Int)) :: (Pk.be u).take 0)).map (.int .u8))) := by
          show World.ownsRow _ _ _ _ _ _ _
          simpa using hown3
        clear hown3 hg3 hown2 hsz2
        go_wp2_with fail
        go_loopw [8, 9] (fun v' i wr => ∃ k : Nat, k ≤ s ∧ i = .int .i64 ((s : Int) - 1 - k) ∧ wr.ownsRow wo.heap.size 5 1 v' (lb.length + 1 + k) (((lb ++ ((s : Int)) :: (Pk.be u).take k)).map (.int .u8)) ∧ Kp 0 0 wo wr) (fun _ i _ => (intOf i + 1).toNat)
        case atStart => exact ⟨0, Nat.zero_le _, by simp, HO3.out, HK3.out⟩
        case round =>
          obtain ⟨k, hk, rfl, hown, hkp⟩ := hrel
          by_cases hlk : k < s
          · obtain ⟨b1, o1, rfl, _, _, hc1⟩ := HCL.out (by rw [HLL.out]; omega)
            have c1 := hkp.cell (hc1 (s - 1 - k) (by rw [HLL.out]; omega)) (.inr (Nat.zero_le _))
            rw [HLG.out _ (by omega)] at c1
            clear hc1
            have HS := Lib.hid (HT.out k hlk)
            generalize Pk.dig u (s - 1 - k) = x at c1 HS
            have hsz := hkp.size
            go_wp2_with (at_builtin; refine wpList_append_own _ rfl _ _ 26 rfl wo.heap.size 5 i0 (.int .u8 0) 1 1 Try.underlying26 hi hz0 hz1 hz2 rfl (by decide) _ _ _ rfl (hown.alloc _) ⟨wr.heap.size, 0, none⟩ 1 1 [.int .u8 x] rfl rfl (cell_one _ _ _) (by simp [Value.oneCell']) (by unfold maxLen; omega) (by omega) (by simp; omega) ?_)
            intro v4 w4 hown4 hg4 _
            have HK4 := Lib.hid ((hkp.alloc _).grown hg4 fun j hj => .inl ((hown.lt j hj).1))
            have HO4 := Lib.hid hown4
            clear hown4 hg4 hown hkp
            go_wp2_with fail
            go_roundw
            case rel =>
              refine ⟨k + 1, by omega, by go_num, ?_, HK4.out⟩
              have ho := HO4.out
              rw [HS.out]
              rw [← Nat.add_assoc]
              simpa using ho
            case measure => simp [intOf]; omega
          · obtain rfl : k = s := by omega
            go_wp2_with fail
            go_ret
            refine ⟨_, rfl, ?_, HKP.out.trans hkp⟩
            rw [HE.out, HHH.out, ← HL.out]
            refine (OwnI.of_rowN hown ?_).wide HKP.out.size (Nat.le_refl _)
            rw [List.length_append, List.length_cons, HL.out, HBL.out]
            omega

end Go.Proofs.Ytgokhagbknlfaaa
