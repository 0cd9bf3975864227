/-
  CrcKnown as a contract.
-/
import Derived.Test.YtjbhbleooebdoaaDoorCTells
import Derived.Test.YtjbhbleooebdoaaDoorCBits
import Derived.Test.YtjbhbleooebdoaaDoorCLine
import Derived.Test.YtjbhbleooebdoaaDoorCBack
import Derived.Test.YtjbhbleooebdoaaDoorCuts
import Derived.Test.YtjbhbleooebdoaaDoorKRow
import Derived.PlainAid
namespace Go.Proofs.YtjbhbleooebdoaaDoor
open Go.RowKit

/-- The sums that are gone on from. -/
def sumsL : List Nat := [0, 1, 2147483647, 2147483648, 3988292384, 4294967295]
theorem sums_lt (i : Nat) (hi : i < 6) : sumsL.getD i 0 < 4294967296 := (by decide : ∀ i < 6, sumsL.getD i 0 < 4294967296) i hi

theorem made_row8 (w : World) (n : Nat) : Row8 (w.alloc (.cells (madeCells #[.int .u8 0] n) 5)) w.heap.size (List.replicate n 0) := by
  refine ⟨_, heap_alloc_new w _, fun j hj => ?_⟩
  rw [List.length_replicate] at hj
  have h1 := (World.rowIs_made w (.int .u8 0) n 5).cell hj
  simp only [World.cell?, heap_alloc_new, Option.isSome_none, Bool.false_eq_true, if_false] at h1
  rw [h1]
  simp [List.getD, hj]

set_option maxRecDepth 100000 in
set_option maxHeartbeats 2000000 in
theorem cknown_any (w : World) (ht : Tabs w) : Calls Tryd.prog 8 #[] w fun e w' => e = .returned (.bool true) ∧ Kp 0 0 w w' := by
  have HT := Lib.hid ht
  clear ht
  go_enter Tryd.func8, Tryd.ntmps8
  go_wp2_with fail
  have HMK : Hid (∀ n : Nat, n ≤ 1000 → ∀ w : World, _) := fun (n : Nat) (hn : n ≤ 1000) (w : World) => run_make_row' (P := Tryd.prog) 23 5 (.int .u8 0) 1 Tryd.underlying23 info_u8 rfl .i64 .i64 n (by omega) (by omega) w
  have HK0 : Hid (Kp 0 0 w (w.alloc (.cells #[.int .u32 0, .int .u32 1, .int .u32 2147483647, .int .u32 2147483648, .int .u32 3988292384, .int .u32 4294967295] 22))) := (Kp.refl 0 0 w).alloc _
  have HC0 : Hid (∀ i, i < 6 → (w.alloc (.cells #[.int .u32 0, .int .u32 1, .int .u32 2147483647, .int .u32 2147483648, .int .u32 3988292384, .int .u32 4294967295] 22)).cell? ⟨w.heap.size, i, none⟩ = some (.int .u32 (sumsL.getD i 0 : Nat))) := fun i hi => by
    match i, hi with
    | 0, _ => simp [sumsL]
    | 1, _ => simp [sumsL]
    | 2, _ => simp [sumsL]
    | 3, _ => simp [sumsL]
    | 4, _ => simp [sumsL]
    | 5, _ => simp [sumsL]
  generalize w.alloc (.cells #[.int .u32 0, .int .u32 1, .int .u32 2147483647, .int .u32 2147483648, .int .u32 3988292384, .int .u32 4294967295] 22) = w0 at HK0 HC0 ⊢
  generalize w.heap.size = g0 at HC0 ⊢
  go_loopw [2] (fun i wr => ∃ k : Nat, k ≤ 6 ∧ i = .int .i64 k ∧ Kp 0 0 w0 wr) (fun i _ => 6 - (intOf i).toNat)
  case atStart => exact ⟨0, Nat.zero_le _, rfl, Kp.refl _ _ _⟩
  case round =>
    obtain ⟨k, hk, rfl, hkp⟩ := hrel
    have HKP := Lib.hid hkp
    clear hkp
    by_cases hlt : k < 6
    · obtain ⟨wo, rfl⟩ : ∃ wo, wo = wr := ⟨_, rfl⟩
      go_wp2_with fail
      have hdk : decide ((k : Int) < 6) = true := decide_eq_true (by omega)
      try rw [hdk]
      clear hdk
      have hs := sums_lt k hlt
      have HCK : Hid (∀ W, Kp 0 0 w0 W → W.cell? ⟨g0, k, none⟩ = some (.int .u32 (sumsL.getD k 0 : Nat))) := fun W hW => hW.cell (HC0.out k hlt) (.inr (Nat.zero_le _))
      have HCT : Hid (∀ W, Kp 0 0 w0 W → W.cell? ⟨g0, 5 - k, none⟩ = some (.int .u32 (sumsL.getD (5 - k) 0 : Nat))) := fun W hW => hW.cell (HC0.out (5 - k) (by omega)) (.inr (Nat.zero_le _))
      have ht := sums_lt (5 - k) (by omega)
      generalize sumsL.getD k 0 = S at HCK hs
      generalize sumsL.getD (5 - k) 0 = T at HCT ht
      go_loopw [3] (fun i wr => ∃ j : Nat, j ≤ 256 ∧ i = .int .i64 j ∧ Kp 0 0 w0 wr) (fun i _ => 256 - (intOf i).toNat)
      case atStart => exact ⟨0, Nat.zero_le _, rfl, HKP.out⟩
      case round =>
        obtain ⟨j, hj, rfl, hkj⟩ := hrel
        have HKJ := Lib.hid hkj
        clear hkj
        by_cases hlj : j < 256
        · have c1 := HCK.out _ HKJ.out
          have j0 : (0 : Int) ≤ (j : Int) := Int.natCast_nonneg _
          go_wp2_with fail
          have HKA : Hid (Kp 0 0 w0 (wr.alloc (.cells #[.int .u8 (j : Int)] 5))) := HKJ.out.alloc _
          refine (tells_any S [(j : Int)] _ _ hs ((lit_rd .u8 5 wr [(j : Int)] (by simp; decide)).wide (Nat.zero_le _) (Nat.le_refl _)) (by intro y hy; simp at hy; omega) (HT.out.keep (HK0.out.trans HKA.out))).mono ?_
          rintro e w1 ⟨rfl, hk1⟩
          have HK1 := Lib.hid (HKA.out.trans hk1)
          clear hk1
          go_wp2_with fail
          go_roundw
          case rel => exact ⟨j + 1, by omega, by go_num, HK1.out⟩
          case measure => simp [intOf]; omega
        · have hj6 : ¬ ((j : Int) < 256) := by omega
          clear hlj
          go_wp2_with fail
          have hdj : decide ((j : Int) < 256) = false := decide_eq_false (by omega)
          try rw [hdj]
          clear hdj hj6
          obtain ⟨wp, rfl⟩ : ∃ wp, wp = wr := ⟨_, rfl⟩
          go_loopw [4] (fun i wr => ∃ n : Nat, n ≤ 40 ∧ i = .int .i64 n ∧ Kp 0 0 w0 wr) (fun i _ => 40 - (intOf i).toNat)
          case atStart => exact ⟨0, Nat.zero_le _, rfl, HKJ.out⟩
          case round =>
            obtain ⟨n, hn, rfl, hkn⟩ := hrel
            have HKN := Lib.hid hkn
            clear hkn
            by_cases hln : n < 40
            · have n0 : (0 : Int) ≤ (n : Int) := Int.natCast_nonneg _
              have hmk := HMK.out n (by omega)
              go_wp2_with fail
              have hdn : decide ((n : Int) < 40) = true := decide_eq_true (by omega)
              try rw [hdn]
              clear hdn hmk
              have hsz := HKN.out.size
              have HZ : Hid (RdI .u8 0 (wr.heap.size + 1) ((wr.alloc (.cells (madeCells #[.int .u8 0] n) 5)).alloc (.cells (madeCells #[.int .u8 0] n) 5)) (.slice (some ⟨wr.heap.size, 0, none⟩) n n) (List.replicate n 0)) := ((made_rd wr n (by omega)).keep0 ((Kp.refl _ _ _).alloc _)).wide (Nat.zero_le _) (Nat.le_refl _)
              have HO : Hid (Row8 ((wr.alloc (.cells (madeCells #[.int .u8 0] n) 5)).alloc (.cells (madeCells #[.int .u8 0] n) 5)) (wr.heap.size + 1) (List.replicate n 0)) := by
                have h1 : wr.heap.size + 1 = (wr.alloc (.cells (madeCells #[.int .u8 0] n) 5)).heap.size := by simp
                show Row8 _ _ _
                rw [h1]
                exact made_row8 _ n
              have HKA : Hid (Kp 0 0 w0 ((wr.alloc (.cells (madeCells #[.int .u8 0] n) 5)).alloc (.cells (madeCells #[.int .u8 0] n) 5))) := (HKN.out.alloc _).alloc _
              generalize (wr.alloc (.cells (madeCells #[.int .u8 0] n) 5)).alloc (.cells (madeCells #[.int .u8 0] n) 5) = wa at HZ HO HKA ⊢
              generalize wr.heap.size = gz at hsz HZ HO ⊢
              go_loopw [7] (fun i wr => ∃ (q : Nat) (lx : List Nat), q ≤ n ∧ i = .int .i64 q ∧ Row8 wr (gz + 1) lx ∧ lx.length = n ∧ Hid (∀ x ∈ lx, x < 256) ∧ Kp (gz + 1) (gz + 2) wa wr) (fun i _ => n - (intOf i).toNat)
              case atStart => exact ⟨0, List.replicate n 0, Nat.zero_le _, rfl, HO.out, List.length_replicate, fun x hx => by rw [(List.mem_replicate.1 hx).2]; decide, Kp.refl _ _ _⟩
              case round =>
                obtain ⟨q, lx, hq, rfl, hrow, hlx, HLX, hkq⟩ := hrel
                by_cases hlq : q < n
                · obtain ⟨c1, c2⟩ := hrow.cell (k := q) (by omega)
                  have HROW := Lib.hid hrow
                  have HKQ := Lib.hid hkq
                  have q0 : (0 : Int) ≤ (q : Int) := Int.natCast_nonneg _
                  clear hrow hkq
                  generalize lx.getD q 0 = X at c1
                  go_wp2_with fail
                  go_roundw
                  case rel => exact ⟨q + 1, lx.set q 255, by omega, by go_num, HROW.out.set q 255, by rw [List.length_set]; exact hlx, fun x hx => by
                    rcases List.mem_or_eq_of_mem_set hx with h | h
                    · exact HLX.out x h
                    · rw [h]; decide, HKQ.out.row8 (.inr ⟨Nat.le_refl _, Nat.lt_succ_self _⟩) _ _⟩
                  case measure => simp [intOf]; omega
                · obtain rfl : q = n := by omega
                  have HKB : Hid (Kp 0 0 w0 wr) := HKA.out.step hkq fun j h1 h2 => .inl (by omega)
                  have HZB := Lib.hid (HZ.out.keep hkq fun b h1 h2 => .inl h2)
                  have hr := hrow.rd (cap := q) (by omega) (by unfold maxLen; omega)
                  rw [hlx] at hr
                  have HOB := Lib.hid (hr.wide (Nat.zero_le _) (Nat.le_refl _))
                  clear hrow hkq hr
                  have NZ : Hid (∀ y ∈ List.replicate q (0 : Int), 0 ≤ y ∧ y < 256) := fun y hy => by rw [(List.mem_replicate.1 hy).2]; omega
                  have NO := Lib.hid (ints_byte HLX.out)
                  have TB : Hid (∀ W, Kp 0 0 wr W → Tabs W) := fun W hW => HT.out.keep ((HK0.out.trans HKB.out).trans hW)
                  obtain ⟨k5, hk5⟩ : ∃ k5, k5 = 5 - k := ⟨_, rfl⟩
                  rw [← hk5] at HCT
                  have k50 : (0 : Int) ≤ (k5 : Int) := Int.natCast_nonneg _
                  have k51 : (k5 : Int) < 6 := by omega
                  have kk0 : (0 : Int) ≤ (k : Int) := Int.natCast_nonneg _
                  have kk1 : (k : Int) < 6 := by omega
                  have HKS : Hid (∀ W, Kp 0 0 wr W → W.cell? ⟨g0, k, none⟩ = some (.int .u32 S) ∧ W.cell? ⟨g0, k5, none⟩ = some (.int .u32 T) ∧ Kp 0 0 wr W) := fun W hW => ⟨HCK.out _ (HKB.out.trans hW), HCT.out _ (HKB.out.trans hW), hW⟩
                  have AT : Hid (∀ W g, (g = gz ∨ g = gz + 1) → Kp 0 0 wr W → Calls Tryd.prog 3 #[.int .u32 S, .slice (some ⟨g, 0, none⟩) q q] W fun e w' => e = .returned (.bool true) ∧ Kp 0 0 wr w') := fun W g hg hW => by
                    rcases hg with rfl | rfl
                    · exact (tells_any S _ W _ hs (HZB.out.keep0 hW) NZ.out (TB.out W hW)).mono fun e w' h => ⟨h.1, hW.trans h.2⟩
                    · exact (tells_any S _ W _ hs (HOB.out.keep0 hW) NO.out (TB.out W hW)).mono fun e w' h => ⟨h.1, hW.trans h.2⟩
                  have AC : Hid (∀ W x y, (-100 ≤ x ∧ x ≤ 100) → (-100 ≤ y ∧ y ≤ 100) → Kp 0 0 wr W → Calls Tryd.prog 4 #[.int .u32 S, .slice (some ⟨gz + 1, 0, none⟩) q q, .slice (some ⟨W.heap.size, 0, none⟩) 3 3] (W.alloc (.cells #[.int .i64 x, .int .i64 0, .int .i64 y] 3)) fun e w' => e = .returned (.bool true) ∧ Kp 0 0 wr w') := fun W x y hx hy hW => by
                    have hA : Kp 0 0 wr (W.alloc (.cells #[.int .i64 x, .int .i64 0, .int .i64 y] 3)) := hW.alloc _
                    have hl := (lit_rd .i64 3 W [x, 0, y] (by simp; decide)).wide (Nat.zero_le _) (Nat.le_refl _)
                    exact (cuts_any S _ _ _ _ _ hs (HOB.out.keep0 hA) NO.out hl (by intro z hz; simp at hz; omega) (TB.out _ hA)).mono fun e w' h => ⟨h.1, hA.trans h.2⟩
                  have AR : Hid (∀ W, Kp 0 0 wr W → Calls Tryd.prog 19 #[.int .i64 (q : Int)] W fun e w' => ∃ v', e = .returned v' ∧ RdI .u8 0 w'.heap.size w' v' (rowL q) ∧ Kp 0 0 wr w') := fun W hW =>
                    (row_any q W (by omega)).mono fun e w' h => by
                      obtain ⟨v', he, ho, hk⟩ := h
                      exact ⟨v', he, ho.rd.wide (Nat.zero_le _) (Nat.le_refl _), hW.trans hk⟩
                  have AL : Hid (∀ W v, RdI .u8 0 W.heap.size W v (rowL q) → Kp 0 0 wr W → Calls Tryd.prog 5 #[.int .u32 S, .slice (some ⟨gz, 0, none⟩) q q, .slice (some ⟨gz + 1, 0, none⟩) q q, v] W fun e w' => e = .returned (.bool true) ∧ Kp 0 0 wr w') := fun W v hv hW =>
                    (line_any S _ _ _ W _ _ _ hs (HZB.out.keep0 hW) (HOB.out.keep0 hW) hv NZ.out NO.out (rowL_byte q) (TB.out W hW)).mono fun e w' h => ⟨h.1, hW.trans h.2⟩
                  have AB : Hid (∀ W, Kp 0 0 wr W → Calls Tryd.prog 6 #[.int .u32 S, .int .u32 T, .slice (some ⟨gz + 1, 0, none⟩) q q, .slice (some ⟨gz, 0, none⟩) q q] W fun e w' => e = .returned (.bool true) ∧ Kp 0 0 wr w') := fun W hW =>
                    (cback_any S T _ _ W _ _ hs ht (HOB.out.keep0 hW) (HZB.out.keep0 hW) NO.out NZ.out (TB.out W hW)).mono fun e w' h => ⟨h.1, hW.trans h.2⟩
                  have AI : Hid (∀ W z, (-1000 ≤ z ∧ z ≤ 1000) → Kp 0 0 wr W → Calls Tryd.prog 7 #[.slice (some ⟨gz + 1, 0, none⟩) q q, .int .i64 z, .int .u32 S] W fun e w' => e = .returned (.bool true) ∧ Kp 0 0 wr w') := fun W z hz hW =>
                    (bits_any _ z S W _ (by omega) (by omega) hs (HOB.out.keep0 hW) NO.out (TB.out W hW)).mono fun e w' h => ⟨h.1, hW.trans h.2⟩
                  have w5 : IntKind.i64.wrap ((5 : Int) - (k : Int)) = (k5 : Int) := by
                    rw [PlainAid.i64_is]
                    unfold wrap64
                    omega
                  have w7' : IntKind.i64.wrap ((7 : Int) * (q : Int)) = (7 : Int) * (q : Int) := by
                    rw [PlainAid.i64_is]
                    unfold wrap64
                    omega
                  have w3 : Hid (IntKind.i64.wrap ((q : Int) / 3) = (q : Int) / 3) := by
                    show _ = _
                    rw [PlainAid.i64_is]
                    unfold wrap64
                    omega
                  have w2 : Hid (IntKind.i64.wrap ((q : Int) / 2) = (q : Int) / 2) := by
                    show _ = _
                    rw [PlainAid.i64_is]
                    unfold wrap64
                    omega
                  clear HCK HCT hk5
                  go_wp2_with fail
                  try simp only [List.append_eq, List.cons_append, List.nil_append]
                  go_region_held3 (fun w' => w'.cell? ⟨g0, k, none⟩ = some (.int .u32 S) ∧ w'.cell? ⟨g0, k5, none⟩ = some (.int .u32 T) ∧ Kp 0 0 wr w')
                    (first | exact HKS.out _ (Kp.refl 0 0 _).drew | exact HKS.out _ hk7 | exact HKS.out _ (Kp.alloc (by first | assumption | exact And.right (And.right (by assumption))) _))
                    ((first
                      | (go_at_call 3
                         refine (AT.out _ _ ?_ ?_).mono ?_
                         · first | exact .inl rfl | exact .inr rfl
                         · first | assumption | exact And.right (And.right (by assumption))
                         rintro e w7 ⟨rfl, hk7⟩)
                      | (go_at_call 4
                         refine (AC.out _ _ _ ?_ ?_ ?_).mono ?_
                         · first | omega | (rw [w3.out]; omega)
                         · first | omega | (rw [w2.out]; omega)
                         · first | assumption | exact And.right (And.right (by assumption))
                         rintro e w7 ⟨rfl, hk7⟩)
                      | (go_at_call 19
                         refine (AR.out _ ?_).mono ?_
                         · first | assumption | exact And.right (And.right (by assumption))
                         rintro e w7 ⟨v7, rfl, hv7, hk7⟩)
                      | (go_at_call 5
                         refine (AL.out _ _ ?_ ?_).mono ?_
                         · assumption
                         · first | assumption | exact And.right (And.right (by assumption))
                         rintro e w7 ⟨rfl, hk7⟩)
                      | (go_at_call 6
                         refine (AB.out _ ?_).mono ?_
                         · first | assumption | exact And.right (And.right (by assumption))
                         rintro e w7 ⟨rfl, hk7⟩)
                      | (go_at_call 7
                         refine (AI.out _ _ ?_ ?_).mono ?_
                         · omega
                         · first | assumption | exact And.right (And.right (by assumption))
                         rintro e w7 ⟨rfl, hk7⟩)))
                  have HKE : Hid (Kp 0 0 w0 w7) := HKB.out.trans hk7
                  go_wp2_with fail
                  go_roundw
                  case rel => exact ⟨q + 1, by omega, by go_num, HKE.out⟩
                  case measure => simp [intOf]; omega
            · go_wp2_with fail
              go_roundw
              case rel => exact ⟨k + 1, by omega, by go_num, HKN.out⟩
              case measure => simp [intOf]; omega
    · go_wp2_with fail
      refine (said_any _ (HT.out.keep (HK0.out.trans HKP.out))).mono ?_
      rintro e w1 ⟨rfl, hk1⟩
      go_wp2_with fail
      go_ret
      exact ⟨rfl, (HK0.out.trans HKP.out).trans hk1⟩

end Go.Proofs.YtjbhbleooebdoaaDoor
