/-
  FrameKnown as a contract, where Put, Get and Scan keep the document.
-/
import Derived.Test.YtpdkfafnffihjaaDoorFPuts
import Derived.Test.YtpdkfafnffihjaaDoorFBack
import Derived.Test.YtpdkfafnffihjaaDoorFWhole
import Derived.Test.YtpdkfafnffihjaaDoorRow8
import Derived.Deep.OwnRows
import Derived.PlainAid
namespace Go.Proofs.YtpdkfafnffihjaaDoor
open Go.RowKit

/-- The kinds that are tried. -/
def kindsL : List Int := [-9223372036854775808, -1, 0, 1, 255, 256, 9223372036854775807]
theorem kinds_lt (i : Nat) (hi : i < 7) : -9223372036854775808 ≤ kindsL.getD i 0 ∧ kindsL.getD i 0 ≤ 9223372036854775807 := (by decide : ∀ i < 7, -9223372036854775808 ≤ kindsL.getD i 0 ∧ kindsL.getD i 0 ≤ 9223372036854775807) i hi

theorem made_row8 (w : World) (n : Nat) : Row8 (w.alloc (.cells (madeCells #[.int .u8 0] n) 5)) w.heap.size (List.replicate n 0) := by
  refine ⟨_, heap_alloc_new w _, fun j hj => ?_⟩
  rw [List.length_replicate] at hj
  have h1 := (World.rowIs_made w (.int .u8 0) n 5).cell hj
  simp only [World.cell?, heap_alloc_new, Option.isSome_none, Bool.false_eq_true, if_false] at h1
  rw [h1]
  simp [List.getD, hj]

theorem made_rd8 (w : World) (n : Nat) (hn : n ≤ 1000000) : RdI .u8 w.heap.size (w.heap.size + 1) (w.alloc (.cells (madeCells #[.int .u8 0] n) 5)) (.slice (some ⟨w.heap.size, 0, none⟩) n n) (ints (List.replicate n 0)) := by
  have h := (made_row8 w n).rd (cap := n) (by rw [List.length_replicate]; exact Nat.le_refl _) (by unfold maxLen; omega)
  rwa [List.length_replicate] at h

theorem two_frames (w : World) (x : Int) : RdF 0 (w.heap.size + 2) ((w.alloc (.cells #[.int .u8 4] 5)).alloc (.cells #[.int .i64 x, .slice none 0 0, .int .i64 1, .slice (some ⟨w.heap.size, 0, none⟩) 1 1] 24)) (.slice (some ⟨w.heap.size + 1, 0, none⟩) 2 2) [(x, []), (1, [4])] := by
  have hs : (w.alloc (.cells #[.int .u8 4] 5)).heap.size = w.heap.size + 1 := by simp
  have hA := heap_alloc_new (w.alloc (.cells #[.int .u8 4] 5)) (.cells #[.int .i64 x, .slice none 0 0, .int .i64 1, .slice (some ⟨w.heap.size, 0, none⟩) 1 1] 24)
  rw [hs] at hA
  have hR : RdI .u8 0 (w.heap.size + 2) ((w.alloc (.cells #[.int .u8 4] 5)).alloc (.cells #[.int .i64 x, .slice none 0 0, .int .i64 1, .slice (some ⟨w.heap.size, 0, none⟩) 1 1] 24)) (.slice (some ⟨w.heap.size, 0, none⟩) 1 1) (ints [4]) :=
    ((lit_ints 5 w [4] (by decide)).keep0 ((Kp.refl 0 0 _).alloc _)).wide (Nat.zero_le _) (by omega)
  generalize (w.alloc (.cells #[.int .u8 4] 5)).alloc (.cells #[.int .i64 x, .slice none 0 0, .int .i64 1, .slice (some ⟨w.heap.size, 0, none⟩) 1 1] 24) = W at hA hR ⊢
  refine ⟨some ⟨w.heap.size + 1, 0, none⟩, 2, rfl, Nat.le_refl _, by decide, fun _ => ⟨w.heap.size + 1, 0, rfl, Nat.zero_le _, by omega, fun i hi => ?_⟩⟩
  match i, hi with
  | 0, _ => exact ⟨by simp [World.cell?, hA], .slice none 0 0, by simp [World.cell?, hA], RdI.nil _ _ _ _⟩
  | 1, _ => exact ⟨by simp [World.cell?, hA], _, by simp [World.cell?, hA], hR⟩
  | i + 2, hi => exact absurd hi (by simp)

theorem known_short : Fr.get [7, 0, 0] = (0, [], 0, 4) := by decide +kernel
theorem known_kind : Fr.get [0, 0, 0, 0] = (0, [], 0, 2) := by decide +kernel
theorem known_long : Fr.get [7, 1, 0, 1] = (0, [], 0, 5) := by decide +kernel

set_option maxRecDepth 100000 in
set_option maxHeartbeats 2000000 in
theorem fknown_any (HP : PutOk) (HG : GetOk) (HS : ScanOk) (w : World) (ht : Tabs w) : Calls Tryd.prog 9 #[] w fun e w' => e = .returned (.bool true) ∧ Kp 0 0 w w' := by
  have HT := Lib.hid ht
  clear ht
  go_enter Tryd.func9, Tryd.ntmps9
  go_wp2_with fail
  have HMK : Hid (∀ n : Nat, n ≤ 1000000 → ∀ w : World, _) := fun (n : Nat) (hn : n ≤ 1000000) (w : World) => run_make_row' (P := Tryd.prog) 22 5 (.int .u8 0) 1 Tryd.underlying22 info_u8 rfl .i64 .i64 n (by omega) (by omega) w
  have HK0 : Hid (Kp 0 0 w (w.alloc (.cells #[.int .i64 (-9223372036854775808), .int .i64 (-1), .int .i64 0, .int .i64 1, .int .i64 255, .int .i64 256, .int .i64 9223372036854775807] 3))) := (Kp.refl 0 0 w).alloc _
  have HC0 : Hid (∀ i, i < 7 → (w.alloc (.cells #[.int .i64 (-9223372036854775808), .int .i64 (-1), .int .i64 0, .int .i64 1, .int .i64 255, .int .i64 256, .int .i64 9223372036854775807] 3)).cell? ⟨w.heap.size, i, none⟩ = some (.int .i64 (kindsL.getD i 0))) := fun i hi => by
    match i, hi with
    | 0, _ => simp [kindsL]
    | 1, _ => simp [kindsL]
    | 2, _ => simp [kindsL]
    | 3, _ => simp [kindsL]
    | 4, _ => simp [kindsL]
    | 5, _ => simp [kindsL]
    | 6, _ => simp [kindsL]
  generalize w.alloc (.cells #[.int .i64 (-9223372036854775808), .int .i64 (-1), .int .i64 0, .int .i64 1, .int .i64 255, .int .i64 256, .int .i64 9223372036854775807] 3) = w0 at HK0 HC0 ⊢
  generalize w.heap.size = g0 at HC0 ⊢
  go_loopw [2] (fun i wr => ∃ k : Nat, k ≤ 7 ∧ i = .int .i64 k ∧ Kp 0 0 w0 wr) (fun i _ => 7 - (intOf i).toNat)
  case atStart => exact ⟨0, Nat.zero_le _, rfl, Kp.refl _ _ _⟩
  case round =>
    obtain ⟨k, hk, rfl, hkp⟩ := hrel
    have HKP := Lib.hid hkp
    clear hkp
    by_cases hlt : k < 7
    · have c1 := HKP.out.cell (HC0.out k hlt) (.inr (Nat.zero_le _))
      obtain ⟨q1, q2⟩ := kinds_lt k hlt
      generalize hx0 : kindsL.getD k 0 = x at c1 q1 q2
      have hx := Lib.hid hx0
      clear hx0
      go_wp2_with fail
      have HKA : Hid (Kp 0 0 w0 (wr.alloc (.cells #[.int .u8 1] 5))) := HKP.out.alloc _
      refine (puts_any HP HG x [1] _ _ q1 q2 ((lit_ints 5 wr [1] (by decide)).wide (Nat.zero_le _) (Nat.le_refl _)) (by decide) (HT.out.keep (HK0.out.trans HKA.out))).mono ?_
      rintro e w1 ⟨rfl, hk1⟩
      have HK1 := Lib.hid (HKA.out.trans hk1)
      have c1 := HK1.out.cell (HC0.out k hlt) (.inr (Nat.zero_le _))
      rw [hx.out] at c1
      clear hk1
      go_wp2_with fail
      refine (fback_any HP HG x [] [] _ _ _ q1 q2 (RdI.nil .u8 0 0 _) (by decide) (RdI.nil .u8 0 0 _) (by decide) (HT.out.keep (HK0.out.trans HK1.out))).mono ?_
      rintro e w2 ⟨rfl, hk2⟩
      have HK2 := Lib.hid (HK1.out.trans hk2)
      have c1 := HK2.out.cell (HC0.out k hlt) (.inr (Nat.zero_le _))
      rw [hx.out] at c1
      clear hk2
      go_wp2_with fail
      have HKB : Hid (Kp 0 0 w0 ((w2.alloc (.cells #[.int .u8 4] 5)).alloc (.cells #[.int .i64 x, .slice none 0 0, .int .i64 1, .slice (some ⟨w2.heap.size, 0, none⟩) 1 1] 24))) := (HK2.out.alloc _).alloc _
      refine (whole_any HP HG HS [(x, []), (1, [4])] 9 _ _ (by decide) (by decide) (two_frames w2 x) (fun f hf => ?fb) (by simp) (HT.out.keep (HK0.out.trans HKB.out))).mono ?_
      case fb =>
        rcases List.mem_cons.1 hf with rfl | hf
        · intro y hy; simp at hy
        · rcases List.mem_cons.1 hf with rfl | hf
          · intro y hy; simp at hy; omega
          · simp at hf
      rintro e w3 ⟨rfl, hk3⟩
      have HK3 := Lib.hid (HKB.out.trans hk3)
      clear hk3
      go_wp2_with fail
      go_roundw
      case rel => exact ⟨k + 1, by omega, by go_num, HK3.out⟩
      case measure => simp [intOf]; omega
    · have hmk1 := HMK.out 65536 (by decide) wr
      rw [show ((65536 : Nat) : Int) = 65536 from rfl] at hmk1
      have HF1 := Lib.hid (made_rd8 wr 65536 (by decide))
      have HKM : Hid (Kp 0 0 wr (wr.alloc (.cells (madeCells #[.int .u8 0] 65536) 5))) := (Kp.refl 0 0 wr).alloc _
      have HZL : Hid ((List.replicate 65536 0 : List Nat).length = 65536) := by show _ = _; rw [List.length_replicate]
      have HZB : Hid (∀ y ∈ (List.replicate 65536 0 : List Nat), y < 256) := fun y hy => by rw [List.eq_of_mem_replicate hy]; decide
      generalize wr.alloc (.cells (madeCells #[.int .u8 0] 65536) 5) = wm at hmk1 HF1 HKM
      generalize (List.replicate 65536 0 : List Nat) = Z at HF1 HZL HZB
      have HPZ : Hid (Fr.put 3 Z = (Fr.enc 3 Z, 0)) := put_good (k := 3) (by decide) (by rw [HZL.out]; decide)
      have hel := Fr.enc_len 3 Z
      rw [HZL.out] at hel
      have HGZ : Hid (Fr.get (Fr.enc 3 Z) = (3, Z, 65545, 0)) := by
        have h := Fr.get_enc0 (k := 3) (b := Z) (by decide) (by rw [HZL.out]; decide)
        rw [HZL.out] at h
        exact h
      have HEB : Hid (∀ y ∈ Fr.enc 3 Z, y < 256) := Fr.enc_byte (by decide) (by rw [HZL.out]; decide) HZB.out
      go_wp2_with fail
      have HKN : Hid (Kp 0 0 wr (wm.alloc (.cells #[.int .i64 3, .slice (some ⟨wr.heap.size, 0, none⟩) 65536 65536] 24))) := HKM.out.alloc _
      have HF2 := Lib.hid (HF1.out.keep0 ((Kp.refl 0 0 wm).alloc (.cells #[.int .i64 3, .slice (some ⟨wr.heap.size, 0, none⟩) 65536 65536] 24)))
      have hput := HP _ _ 3 Z _ _ HF2.out HZB.out ⟨by decide, by decide⟩ (HT.out.keep (HK0.out.trans (HKP.out.trans HKN.out)))
      rw [HPZ.out] at hput
      refine hput.mono ?_
      clear hput
      rintro e w1 ⟨v1, rfl, hown, hk⟩
      obtain ⟨a1, c1, rfl, _, _, _⟩ := hown.rd.open
      have HO1 := Lib.hid hown.rd
      have HK1 := Lib.hid ((HKP.out.trans HKN.out).trans hk)
      clear hown hk
      go_wp2_with fail
      have hget := HG _ _ (Fr.enc 3 Z) _ _ HO1.out HEB.out (HT.out.keep (HK0.out.trans HK1.out))
      rw [HGZ.out] at hget
      refine hget.mono ?_
      clear hget
      rintro e w2 ⟨v2, rfl, hown, hk⟩
      obtain ⟨a2, c2, rfl, _, _, _⟩ := hown.rd.open
      rw [ints_len, HZL.out] at hown ⊢
      have HK2 := Lib.hid (HK1.out.trans hk)
      clear hown hk
      have HKQ : Hid (Kp 0 0 w0 (w2.alloc (.cells #[.int .i64 3, .slice a2 65536 c2] 24))) := HK2.out.alloc _
      have CF1 : Hid ((w2.alloc (.cells #[.int .i64 3, .slice a2 65536 c2] 24)).cell? ⟨w2.heap.size, 1, none⟩ = some (.slice a2 65536 c2)) := by show _ = _; simp
      have hmk2 := HMK.out 65537 (by decide) (w2.alloc (.cells #[.int .i64 3, .slice a2 65536 c2] 24))
      rw [show ((65537 : Nat) : Int) = 65537 from rfl] at hmk2
      have HY1 := Lib.hid (made_rd8 (w2.alloc (.cells #[.int .i64 3, .slice a2 65536 c2] 24)) 65537 (by decide))
      have HKY : Hid (Kp 0 0 (w2.alloc (.cells #[.int .i64 3, .slice a2 65536 c2] 24)) ((w2.alloc (.cells #[.int .i64 3, .slice a2 65536 c2] 24)).alloc (.cells (madeCells #[.int .u8 0] 65537) 5))) := (Kp.refl 0 0 _).alloc _
      have HYL : Hid ((List.replicate 65537 0 : List Nat).length = 65537) := by show _ = _; rw [List.length_replicate]
      have HYB : Hid (∀ y ∈ (List.replicate 65537 0 : List Nat), y < 256) := fun y hy => by rw [List.eq_of_mem_replicate hy]; decide
      rw [show (w2.alloc (.cells #[.int .i64 3, .slice a2 65536 c2] 24)).heap.size = w2.heap.size + 1 by simp] at hmk2 HY1
      generalize (w2.alloc (.cells #[.int .i64 3, .slice a2 65536 c2] 24)).alloc (.cells (madeCells #[.int .u8 0] 65537) 5) = wn at hmk2 HY1 HKY
      generalize (List.replicate 65537 0 : List Nat) = Y at HY1 HYL HYB
      have HPY : Hid (Fr.put 3 Y = ([], 5)) := put_bad2 (k := 3) (by decide) (by rw [HYL.out]; decide)
      go_wp2_with fail
      have hput := HP _ _ 3 Y _ _ HY1.out HYB.out ⟨by decide, by decide⟩ (HT.out.keep (HK0.out.trans (HKQ.out.trans HKY.out)))
      rw [HPY.out] at hput
      refine hput.mono ?_
      clear hput
      rintro e w3 ⟨v3, rfl, hown, hk⟩
      obtain ⟨a3, c3, rfl, _, _, _⟩ := hown.rd.open
      rw [show (ints ([] : List Nat)).length = 0 from rfl]
      have HK3 := Lib.hid ((HKQ.out.trans HKY.out).trans hk)
      have cf3 := (HKY.out.trans hk).cell CF1.out (.inr (Nat.zero_le _))
      clear hown hk
      go_wp2_with fail
      have HKL4 : Hid (Kp 0 0 w0 (w3.alloc (.cells #[.int .u8 7, .int .u8 0, .int .u8 0] 5))) := HK3.out.alloc _
      have HL4 := Lib.hid (lit_ints 5 w3 [7, 0, 0] (by decide))
      have hget := HG _ _ [7, 0, 0] _ _ HL4.out (by decide) (HT.out.keep (HK0.out.trans HKL4.out))
      rw [known_short] at hget
      refine hget.mono ?_
      clear hget
      rintro e w4 ⟨v4, rfl, hown, hk⟩
      obtain ⟨a4, c4, rfl, _, _, _⟩ := hown.rd.open
      rw [show (ints ([] : List Nat)).length = 0 from rfl]
      have HK4 : Hid (Kp 0 0 w0 (w4.alloc (.cells #[.int .i64 0, .slice a4 0 c4] 24))) := (HKL4.out.trans hk).alloc _
      have cf4 := (((Kp.refl 0 0 w3).alloc (.cells #[.int .u8 7, .int .u8 0, .int .u8 0] 5)).trans hk).alloc (.cells #[.int .i64 0, .slice a4 0 c4] 24) |>.cell cf3 (.inr (Nat.zero_le _))
      clear hown hk
      go_wp2_with fail
      have HKL5 : Hid (Kp 0 0 w0 ((w4.alloc (.cells #[.int .i64 0, .slice a4 0 c4] 24)).alloc (.cells #[.int .u8 0, .int .u8 0, .int .u8 0, .int .u8 0] 5))) := HK4.out.alloc _
      have HL5 := Lib.hid (lit_ints 5 (w4.alloc (.cells #[.int .i64 0, .slice a4 0 c4] 24)) [0, 0, 0, 0] (by decide))
      rw [show (w4.alloc (.cells #[.int .i64 0, .slice a4 0 c4] 24)).heap.size = w4.heap.size + 1 by simp] at HL5
      have hget := HG _ _ [0, 0, 0, 0] _ _ HL5.out (by decide) (HT.out.keep (HK0.out.trans HKL5.out))
      rw [known_kind] at hget
      refine hget.mono ?_
      clear hget
      rintro e w5 ⟨v5, rfl, hown, hk⟩
      obtain ⟨a5, c5, rfl, _, _, _⟩ := hown.rd.open
      rw [show (ints ([] : List Nat)).length = 0 from rfl]
      have HK5 : Hid (Kp 0 0 w0 (w5.alloc (.cells #[.int .i64 0, .slice a5 0 c5] 24))) := (HKL5.out.trans hk).alloc _
      have cf5 := (((Kp.refl 0 0 (w4.alloc (.cells #[.int .i64 0, .slice a4 0 c4] 24))).alloc (.cells #[.int .u8 0, .int .u8 0, .int .u8 0, .int .u8 0] 5)).trans hk).alloc (.cells #[.int .i64 0, .slice a5 0 c5] 24) |>.cell cf4 (.inr (Nat.zero_le _))
      clear hown hk
      go_wp2_with fail
      have HKL6 : Hid (Kp 0 0 w0 ((w5.alloc (.cells #[.int .i64 0, .slice a5 0 c5] 24)).alloc (.cells #[.int .u8 7, .int .u8 1, .int .u8 0, .int .u8 1] 5))) := HK5.out.alloc _
      have HL6 := Lib.hid (lit_ints 5 (w5.alloc (.cells #[.int .i64 0, .slice a5 0 c5] 24)) [7, 1, 0, 1] (by decide))
      rw [show (w5.alloc (.cells #[.int .i64 0, .slice a5 0 c5] 24)).heap.size = w5.heap.size + 1 by simp] at HL6
      have hget := HG _ _ [7, 1, 0, 1] _ _ HL6.out (by decide) (HT.out.keep (HK0.out.trans HKL6.out))
      rw [known_long] at hget
      refine hget.mono ?_
      clear hget
      rintro e w6 ⟨v6, rfl, hown, hk⟩
      obtain ⟨a6, c6, rfl, _, _, _⟩ := hown.rd.open
      rw [show (ints ([] : List Nat)).length = 0 from rfl]
      have HK6 : Hid (Kp 0 0 w0 (w6.alloc (.cells #[.int .i64 0, .slice a6 0 c6] 24))) := (HKL6.out.trans hk).alloc _
      have cf6 := (((Kp.refl 0 0 (w5.alloc (.cells #[.int .i64 0, .slice a5 0 c5] 24))).alloc (.cells #[.int .u8 7, .int .u8 1, .int .u8 0, .int .u8 1] 5)).trans hk).alloc (.cells #[.int .i64 0, .slice a6 0 c6] 24) |>.cell cf5 (.inr (Nat.zero_le _))
      clear hown hk
      go_wp2_with fail
      refine (shown_any HP HG _ (HT.out.keep (HK0.out.trans HK6.out))).mono ?_
      rintro e w7 ⟨rfl, hk⟩
      go_wp2_with fail
      go_returns
      exact ⟨rfl, HK0.out.trans (HK6.out.trans hk)⟩

end Go.Proofs.YtpdkfafnffihjaaDoor
