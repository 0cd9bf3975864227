/-
  EventKnown as a contract.
-/
import Derived.Test.YtnboeagallkooaaEvLaw2
import Derived.Deep.Cut
import Derived.Deep.OwnRows
namespace Go.Proofs.Ytnboeagallkooaa
open Go.RowKit

def lastE : Evt := ⟨0, 9223372036854775807, 9223372036854775807, [9223372036854775806], 7, 9223372036854775807, 7, 5, -9223372036854775808, 9223372036854775807⟩

theorem last_fits : Ev.Fits lastE := by
  refine ⟨?_, ?_, ?_, ?_, ?_, ?_, ?_, ?_, ?_, ?_⟩
  case refine_4 => intro x hx; simp [lastE] at hx; rw [hx]; exact ⟨by decide, by decide⟩
  all_goals exact ⟨by decide, by decide⟩
theorem last_get : Ev.get (Ev.put lastE).1 = (lastE, 0) := Ev.get_put last_fits (by decide)
theorem last_err : (Ev.put lastE).2 = 0 := by decide +kernel
theorem last_chk : Ev.check lastE 1 = 0 := by decide +kernel
theorem two_get : Ev.err [2] = 4 := by decide +kernel
theorem eleven_get : Ev.err (List.replicate 11 0) = 5 := by decide +kernel
theorem ten_err : Ev.err (List.replicate 10 0) = 0 := by decide +kernel
theorem ten_get : Ev.get (List.replicate 10 0) = (Ev.zero, 0) := by
  have h := Ev.back (b := List.replicate 10 0) (fun y hy => by rw [(List.mem_replicate.1 hy).2]; decide) ten_err
  have hr : Ev.read (List.replicate 10 0) = Ev.zero := by rfl
  have hg : Ev.get (List.replicate 10 0) = (Ev.read (List.replicate 10 0), 0) := if_pos ten_err
  rw [hg, hr]
theorem many_put (e : Evt) (h : e.d.length = 65) : Ev.put e = ([], 3) := if_pos (by omega)
theorem many_fits : Ev.Fits ⟨0, 0, 0, List.replicate 65 0, 0, 0, 0, 0, 0, 0⟩ := by
  refine ⟨?_, ?_, ?_, ?_, ?_, ?_, ?_, ?_, ?_, ?_⟩
  case refine_4 => intro x hx; rw [(List.mem_replicate.1 hx).2]; exact ⟨by decide, by decide⟩
  all_goals exact ⟨by decide, by decide⟩
theorem zero_fits : Ev.Fits Ev.zero := by
  refine ⟨?_, ?_, ?_, ?_, ?_, ?_, ?_, ?_, ?_, ?_⟩
  case refine_4 => intro x hx; cases hx
  all_goals exact ⟨by decide, by decide⟩
theorem zero_chk : Ev.check Ev.zero 0 = 1 := by decide +kernel
theorem small_chkn : Ev.check smallE (-1) = 1 := by decide +kernel

/-- make([]byte, k), as it reads. -/
theorem made_rdE (w : World) (k : Nat) (hk : k ≤ 100000) : RdI .u8 0 (w.heap.size + 1) (w.alloc (.cells (madeCells #[.int .u8 0] k) 5)) (.slice (some ⟨w.heap.size, 0, none⟩) k k) (List.replicate k 0) := by
  refine ⟨by simp, some ⟨w.heap.size, 0, none⟩, k, by rw [List.length_replicate], by simp, by unfold maxLen; omega, (fun h => by cases h), fun j u hu => ⟨w.heap.size, 0, rfl, Nat.zero_le _, by omega, ?_⟩⟩
  have hlt := (List.getElem?_eq_some_iff.1 hu).1
  simp only [List.length_map, List.length_replicate] at hlt
  rw [Nat.zero_add, (World.rowIs_made w (.int .u8 0) k 5).cell hlt]
  rw [← hu]
  simp [hlt]

theorem made_rdI (w : World) (k : Nat) (hk : k ≤ 100000) : RdI .i64 0 (w.heap.size + 1) (w.alloc (.cells (madeCells #[.int .i64 0] k) 3)) (.slice (some ⟨w.heap.size, 0, none⟩) k k) (List.replicate k 0) := by
  refine ⟨by simp, some ⟨w.heap.size, 0, none⟩, k, by rw [List.length_replicate], by simp, by unfold maxLen; omega, (fun h => by cases h), fun j u hu => ⟨w.heap.size, 0, rfl, Nat.zero_le _, by omega, ?_⟩⟩
  have hlt := (List.getElem?_eq_some_iff.1 hu).1
  simp only [List.length_map, List.length_replicate] at hlt
  rw [Nat.zero_add, (World.rowIs_made w (.int .i64 0) k 3).cell hlt]
  rw [← hu]
  simp [hlt]

theorem two_got : Ev.get [2] = (Ev.zero, 4) := by unfold Ev.get; rw [two_get]; rfl
theorem eleven_got : Ev.get (List.replicate 11 0) = (Ev.zero, 5) := by unfold Ev.get; rw [eleven_get]; rfl

set_option maxRecDepth 100000 in
set_option maxHeartbeats 4000000 in
theorem eknownlaw_any (HC : ECheckOk) (HP : EPutOk) (HG : EGetOk) (w : World) :
    Calls Try.prog 7 #[] w fun r w' => r = .returned (.bool true) ∧ Kp 0 0 w w' := by
  have HMK : Hid (∀ n : Nat, n ≤ 1000 → ∀ w : World, _) := fun (n : Nat) (hn : n ≤ 1000) (w : World) => run_make_row' (P := Try.prog) 33 5 (.int .u8 0) 1 Try.underlying33 info_u8 rfl .i64 .i64 n (by omega) (by omega) w
  have HMI : Hid (∀ n : Nat, n ≤ 1000 → ∀ w : World, _) := fun (n : Nat) (hn : n ≤ 1000) (w : World) => run_make_row' (P := Try.prog) 24 3 (.int .i64 0) 8 Try.underlying24 info_int rfl .i64 .i64 n (by omega) (by omega) w
  have HG1 : Hid (∀ W (L : List Int) v hi, RdI .u8 0 hi W v L → (∀ y ∈ L, 0 ≤ y ∧ y < 256) → L.length ≤ 10000 → Calls Try.prog 16 #[v] W fun r w' => (∃ o c, r = .returned (.tuple #[evV (Ev.get L).1 (.slice o (Ev.get L).1.d.length c), .int .i64 (Ev.get L).2]) ∧ RdI .i64 0 w'.heap.size w' (.slice o (Ev.get L).1.d.length c) (Ev.get L).1.d) ∧ Kp 0 0 W w') := fun W L v hi hv hl hn => (HG _ _ L W v hv hl (by omega)).mono fun r w' h => by
    obtain ⟨v, he, ho, hk⟩ := h
    obtain ⟨o, c, rfl, _, _, _⟩ := ho.rd.open
    exact ⟨⟨o, c, he, ho.rd.wide (Nat.zero_le _) (Nat.le_refl _)⟩, hk⟩
  have HXB : Hid (∀ y ∈ (Ev.put lastE).1, 0 ≤ y ∧ y < 256) := Ev.encs_range (i64s_nums last_fits (by decide))
  have hpl := put_len lastE last_fits
  have GX := Lib.hid last_get
  have hpe : Ev.put lastE = ((Ev.put lastE).1, 0) := by rw [← last_err]
  have HPE := Lib.hid hpe
  clear hpe
  generalize (Ev.put lastE).1 = X at HXB hpl GX HPE
  go_enter Try.func7, Try.ntmps7
  go_wp2_with fail
  have HRD : Hid (RdI .i64 0 ((w.alloc (.cells #[.int .i64 9223372036854775806] 3)).alloc (.cells #[Value.int .i64 0, .int .i64 9223372036854775807, .int .i64 9223372036854775807, .slice (some ⟨w.heap.size, 0, none⟩) 1 1, .int .i64 7, .int .i64 9223372036854775807, .int .i64 7, .int .i64 5, .int .i64 (-9223372036854775808), .int .i64 9223372036854775807] 26)).heap.size ((w.alloc (.cells #[.int .i64 9223372036854775806] 3)).alloc (.cells #[Value.int .i64 0, .int .i64 9223372036854775807, .int .i64 9223372036854775807, .slice (some ⟨w.heap.size, 0, none⟩) 1 1, .int .i64 7, .int .i64 9223372036854775807, .int .i64 7, .int .i64 5, .int .i64 (-9223372036854775808), .int .i64 9223372036854775807] 26)) (.slice (some ⟨w.heap.size, 0, none⟩) 1 1) lastE.d) := (((lit_rd .i64 3 w [9223372036854775806] (by decide)).keep0 ((Kp.refl 0 0 _).alloc _)).there).wide (Nat.zero_le _) (Nat.le_refl _)
  have HBL : Hid (((w.alloc (.cells #[.int .i64 9223372036854775806] 3)).alloc (.cells #[Value.int .i64 0, .int .i64 9223372036854775807, .int .i64 9223372036854775807, .slice (some ⟨w.heap.size, 0, none⟩) 1 1, .int .i64 7, .int .i64 9223372036854775807, .int .i64 7, .int .i64 5, .int .i64 (-9223372036854775808), .int .i64 9223372036854775807] 26)).heap[w.heap.size + 1]? = some (.cells #[Value.int .i64 0, .int .i64 9223372036854775807, .int .i64 9223372036854775807, .slice (some ⟨w.heap.size, 0, none⟩) 1 1, .int .i64 7, .int .i64 9223372036854775807, .int .i64 7, .int .i64 5, .int .i64 (-9223372036854775808), .int .i64 9223372036854775807] 26 (0, 0))) := by
    have h := heap_alloc_new (w.alloc (.cells #[.int .i64 9223372036854775806] 3)) (.cells #[Value.int .i64 0, .int .i64 9223372036854775807, .int .i64 9223372036854775807, .slice (some ⟨w.heap.size, 0, none⟩) 1 1, .int .i64 7, .int .i64 9223372036854775807, .int .i64 7, .int .i64 5, .int .i64 (-9223372036854775808), .int .i64 9223372036854775807] 26)
    have hs : (w.alloc (.cells #[.int .i64 9223372036854775806] 3)).heap.size = w.heap.size + 1 := by simp
    rw [hs] at h
    exact h
  have HK1 : Hid (Kp 0 0 w ((w.alloc (.cells #[.int .i64 9223372036854775806] 3)).alloc (.cells #[Value.int .i64 0, .int .i64 9223372036854775807, .int .i64 9223372036854775807, .slice (some ⟨w.heap.size, 0, none⟩) 1 1, .int .i64 7, .int .i64 9223372036854775807, .int .i64 7, .int .i64 5, .int .i64 (-9223372036854775808), .int .i64 9223372036854775807] 26))) := ((Kp.refl _ _ _).alloc _).alloc _
  generalize (w.alloc (.cells #[.int .i64 9223372036854775806] 3)).alloc (.cells #[Value.int .i64 0, .int .i64 9223372036854775807, .int .i64 9223372036854775807, .slice (some ⟨w.heap.size, 0, none⟩) 1 1, .int .i64 7, .int .i64 9223372036854775807, .int .i64 7, .int .i64 5, .int .i64 (-9223372036854775808), .int .i64 9223372036854775807] 26) = w1 at HRD HBL HK1 ⊢
  generalize w.heap.size = pd at HRD HBL ⊢
  have hm := HP _ _ lastE w1 _ HRD.out last_fits (by decide)
  rw [HPE.out] at hm
  refine hm.mono ?_
  clear hm
  rintro r w2 ⟨vb, rfl, hown, hk⟩
  have HX2 := Lib.hid (hown.rd.wide (Nat.zero_le _) (Nat.le_refl _))
  have HRD2 := Lib.hid (HRD.out.keep0 hk)
  have HBL2 := Lib.hid (hk.heap HBL.out (.inr (Nat.zero_le _)))
  have HK2 := Lib.hid (HK1.out.trans hk)
  obtain ⟨ob, cb, rfl, _, _, _⟩ := hown.rd.open
  clear hown hk
  simp only
  go_wp2_with fail
  refine (HG1.out w2 X _ _ HX2.out HXB.out (by omega)).mono ?_
  rw [GX.out]
  rintro r w3 ⟨⟨ox, cx, rfl, hr⟩, hk⟩
  have HX3 : Hid (RdI .i64 0 w3.heap.size w3 (.slice ox 1 cx) lastE.d) := hr
  have HRD3 := Lib.hid (HRD2.out.keep0 hk)
  have HBL3 := Lib.hid (hk.heap HBL2.out (.inr (Nat.zero_le _)))
  have HK3 := Lib.hid (HK2.out.trans hk)
  clear hr hk
  unfold evV lastE
  simp only
  have hs3 : (w3.alloc (.cells #[Value.int .i64 0, .int .i64 9223372036854775807, .int .i64 9223372036854775807, .slice ox 1 cx, .int .i64 7, .int .i64 9223372036854775807, .int .i64 7, .int .i64 5, .int .i64 (-9223372036854775808), .int .i64 9223372036854775807] 26)).heap.size = w3.heap.size + 1 := by simp
  have HK4 : Hid (Kp 0 0 w3 ((w3.alloc (.cells #[Value.int .i64 0, .int .i64 9223372036854775807, .int .i64 9223372036854775807, .slice ox 1 cx, .int .i64 7, .int .i64 9223372036854775807, .int .i64 7, .int .i64 5, .int .i64 (-9223372036854775808), .int .i64 9223372036854775807] 26)).alloc (.cells #[.int .u8 2] 5))) := ((Kp.refl _ _ _).alloc _).alloc _
  have HBX4 : Hid (((w3.alloc (.cells #[Value.int .i64 0, .int .i64 9223372036854775807, .int .i64 9223372036854775807, .slice ox 1 cx, .int .i64 7, .int .i64 9223372036854775807, .int .i64 7, .int .i64 5, .int .i64 (-9223372036854775808), .int .i64 9223372036854775807] 26)).alloc (.cells #[.int .u8 2] 5)).heap[w3.heap.size]? = some (.cells #[Value.int .i64 0, .int .i64 9223372036854775807, .int .i64 9223372036854775807, .slice ox 1 cx, .int .i64 7, .int .i64 9223372036854775807, .int .i64 7, .int .i64 5, .int .i64 (-9223372036854775808), .int .i64 9223372036854775807] 26 (0, 0))) := ((Kp.refl 0 0 _).alloc _).heap (heap_alloc_new w3 _) (.inr (Nat.zero_le _))
  have HR4 : Hid (RdI .u8 0 (w3.heap.size + 1 + 1) ((w3.alloc (.cells #[Value.int .i64 0, .int .i64 9223372036854775807, .int .i64 9223372036854775807, .slice ox 1 cx, .int .i64 7, .int .i64 9223372036854775807, .int .i64 7, .int .i64 5, .int .i64 (-9223372036854775808), .int .i64 9223372036854775807] 26)).alloc (.cells #[.int .u8 2] 5)) (.slice (some ⟨w3.heap.size + 1, 0, none⟩) 1 1) [2]) := by
    have h := (lit_rd .u8 5 (w3.alloc (.cells #[Value.int .i64 0, .int .i64 9223372036854775807, .int .i64 9223372036854775807, .slice ox 1 cx, .int .i64 7, .int .i64 9223372036854775807, .int .i64 7, .int .i64 5, .int .i64 (-9223372036854775808), .int .i64 9223372036854775807] 26)) [2] (by decide)).wide (Nat.zero_le _) (Nat.le_refl _)
    rw [hs3] at h
    exact h
  clear hs3
  go_wp2_with fail
  generalize (w3.alloc (.cells #[Value.int .i64 0, .int .i64 9223372036854775807, .int .i64 9223372036854775807, .slice ox 1 cx, .int .i64 7, .int .i64 9223372036854775807, .int .i64 7, .int .i64 5, .int .i64 (-9223372036854775808), .int .i64 9223372036854775807] 26)).alloc (.cells #[.int .u8 2] 5) = w4 at HK4 HBX4 HR4 ⊢
  generalize w3.heap.size = px at HBX4 HR4 ⊢
  have HK4w := Lib.hid (HK3.out.trans HK4.out)
  have HX4 := Lib.hid (HX3.out.keep0 HK4.out)
  have HRD4 := Lib.hid (HRD3.out.keep0 HK4.out)
  have HBL4 := Lib.hid (HK4.out.heap HBL3.out (.inr (Nat.zero_le _)))
  refine (HG1.out w4 [2] _ _ HR4.out (by decide) (by decide)).mono ?_
  rw [two_got]
  rintro r w5 ⟨⟨oa, ca, rfl, hr⟩, hk⟩
  have HKw5 := Lib.hid (HK4w.out.trans hk)
  have HX5 := Lib.hid (HX4.out.keep0 (hk))
  have HRD5 := Lib.hid (HRD4.out.keep0 (hk))
  have HBL5 := Lib.hid ((hk).heap HBL4.out (.inr (Nat.zero_le _)))
  have HBX5 := Lib.hid ((hk).heap HBX4.out (.inr (Nat.zero_le _)))
  clear hk hr
  unfold evV
  simp only [Ev.zero]
  have hs5 : (w5.alloc (.cells #[Value.int .i64 0, .int .i64 0, .int .i64 0, .slice oa 0 ca, .int .i64 0, .int .i64 0, .int .i64 0, .int .i64 0, .int .i64 0, .int .i64 0] 26)).heap.size = w5.heap.size + 1 := by simp
  have HK6 : Hid (Kp 0 0 w5 ((w5.alloc (.cells #[Value.int .i64 0, .int .i64 0, .int .i64 0, .slice oa 0 ca, .int .i64 0, .int .i64 0, .int .i64 0, .int .i64 0, .int .i64 0, .int .i64 0] 26)).alloc (.cells (madeCells #[.int .u8 0] 11) 5))) := ((Kp.refl _ _ _).alloc _).alloc _
  have HR6 : Hid (RdI .u8 0 (w5.heap.size + 1 + 1) ((w5.alloc (.cells #[Value.int .i64 0, .int .i64 0, .int .i64 0, .slice oa 0 ca, .int .i64 0, .int .i64 0, .int .i64 0, .int .i64 0, .int .i64 0, .int .i64 0] 26)).alloc (.cells (madeCells #[.int .u8 0] 11) 5)) (.slice (some ⟨w5.heap.size + 1, 0, none⟩) 11 11) (List.replicate 11 0)) := by
    have h := made_rdE (w5.alloc (.cells #[Value.int .i64 0, .int .i64 0, .int .i64 0, .slice oa 0 ca, .int .i64 0, .int .i64 0, .int .i64 0, .int .i64 0, .int .i64 0, .int .i64 0] 26)) 11 (by decide)
    rw [hs5] at h
    exact h
  have hmk := HMK.out 11 (by decide)
  rw [show ((11 : Nat) : Int) = 11 from rfl] at hmk
  clear hs5
  go_wp2_with fail
  clear hmk
  generalize (w5.alloc (.cells #[Value.int .i64 0, .int .i64 0, .int .i64 0, .slice oa 0 ca, .int .i64 0, .int .i64 0, .int .i64 0, .int .i64 0, .int .i64 0, .int .i64 0] 26)).alloc (.cells (madeCells #[.int .u8 0] 11) 5) = w6 at HK6 HR6 ⊢
  generalize w5.heap.size = p5 at HR6 ⊢
  have HKw6 := Lib.hid (HKw5.out.trans HK6.out)
  have HX6 := Lib.hid (HX5.out.keep0 (HK6.out))
  have HRD6 := Lib.hid (HRD5.out.keep0 (HK6.out))
  have HBL6 := Lib.hid ((HK6.out).heap HBL5.out (.inr (Nat.zero_le _)))
  have HBX6 := Lib.hid ((HK6.out).heap HBX5.out (.inr (Nat.zero_le _)))
  refine (HG1.out w6 (List.replicate 11 0) _ _ HR6.out (fun y hy => by rw [(List.mem_replicate.1 hy).2]; decide) (by decide)).mono ?_
  rw [eleven_got]
  rintro r w7 ⟨⟨ob2, cb2, rfl, hr⟩, hk⟩
  have HKw7 := Lib.hid (HKw6.out.trans hk)
  have HX7 := Lib.hid (HX6.out.keep0 (hk))
  have HRD7 := Lib.hid (HRD6.out.keep0 (hk))
  have HBL7 := Lib.hid ((hk).heap HBL6.out (.inr (Nat.zero_le _)))
  have HBX7 := Lib.hid ((hk).heap HBX6.out (.inr (Nat.zero_le _)))
  clear hk hr
  unfold evV
  simp only [Ev.zero]
  have hs5 : (w7.alloc (.cells #[Value.int .i64 0, .int .i64 0, .int .i64 0, .slice ob2 0 cb2, .int .i64 0, .int .i64 0, .int .i64 0, .int .i64 0, .int .i64 0, .int .i64 0] 26)).heap.size = w7.heap.size + 1 := by simp
  have HK8 : Hid (Kp 0 0 w7 ((w7.alloc (.cells #[Value.int .i64 0, .int .i64 0, .int .i64 0, .slice ob2 0 cb2, .int .i64 0, .int .i64 0, .int .i64 0, .int .i64 0, .int .i64 0, .int .i64 0] 26)).alloc (.cells (madeCells #[.int .u8 0] 10) 5))) := ((Kp.refl _ _ _).alloc _).alloc _
  have HR8 : Hid (RdI .u8 0 (w7.heap.size + 1 + 1) ((w7.alloc (.cells #[Value.int .i64 0, .int .i64 0, .int .i64 0, .slice ob2 0 cb2, .int .i64 0, .int .i64 0, .int .i64 0, .int .i64 0, .int .i64 0, .int .i64 0] 26)).alloc (.cells (madeCells #[.int .u8 0] 10) 5)) (.slice (some ⟨w7.heap.size + 1, 0, none⟩) 10 10) (List.replicate 10 0)) := by
    have h := made_rdE (w7.alloc (.cells #[Value.int .i64 0, .int .i64 0, .int .i64 0, .slice ob2 0 cb2, .int .i64 0, .int .i64 0, .int .i64 0, .int .i64 0, .int .i64 0, .int .i64 0] 26)) 10 (by decide)
    rw [hs5] at h
    exact h
  have hmk := HMK.out 10 (by decide)
  rw [show ((10 : Nat) : Int) = 10 from rfl] at hmk
  clear hs5
  go_wp2_with fail
  clear hmk
  generalize (w7.alloc (.cells #[Value.int .i64 0, .int .i64 0, .int .i64 0, .slice ob2 0 cb2, .int .i64 0, .int .i64 0, .int .i64 0, .int .i64 0, .int .i64 0, .int .i64 0] 26)).alloc (.cells (madeCells #[.int .u8 0] 10) 5) = w8 at HK8 HR8 ⊢
  generalize w7.heap.size = p7 at HR8 ⊢
  have HKw8 := Lib.hid (HKw7.out.trans HK8.out)
  have HX8 := Lib.hid (HX7.out.keep0 (HK8.out))
  have HRD8 := Lib.hid (HRD7.out.keep0 (HK8.out))
  have HBL8 := Lib.hid ((HK8.out).heap HBL7.out (.inr (Nat.zero_le _)))
  have HBX8 := Lib.hid ((HK8.out).heap HBX7.out (.inr (Nat.zero_le _)))
  refine (HG1.out w8 (List.replicate 10 0) _ _ HR8.out (fun y hy => by rw [(List.mem_replicate.1 hy).2]; decide) (by decide)).mono ?_
  rw [ten_get]
  rintro r w9 ⟨⟨oz, cz, rfl, hr⟩, hk⟩
  have HZ9 : Hid (RdI .i64 0 w9.heap.size w9 (.slice oz 0 cz) []) := hr
  have HKw9 := Lib.hid (HKw8.out.trans hk)
  have HX9 := Lib.hid (HX8.out.keep0 (hk))
  have HRD9 := Lib.hid (HRD8.out.keep0 (hk))
  have HBL9 := Lib.hid ((hk).heap HBL8.out (.inr (Nat.zero_le _)))
  have HBX9 := Lib.hid ((hk).heap HBX8.out (.inr (Nat.zero_le _)))
  clear hk hr
  unfold evV
  simp only [Ev.zero]
  have hs5 : (w9.alloc (.cells #[Value.int .i64 0, .int .i64 0, .int .i64 0, .slice oz 0 cz, .int .i64 0, .int .i64 0, .int .i64 0, .int .i64 0, .int .i64 0, .int .i64 0] 26)).heap.size = w9.heap.size + 1 := by simp
  have hmk := HMI.out 65 (by decide)
  rw [show ((65 : Nat) : Int) = 65 from rfl] at hmk
  have HKA : Hid (Kp 0 0 w9 ((w9.alloc (.cells #[Value.int .i64 0, .int .i64 0, .int .i64 0, .slice oz 0 cz, .int .i64 0, .int .i64 0, .int .i64 0, .int .i64 0, .int .i64 0, .int .i64 0] 26)).alloc (.cells (madeCells #[.int .i64 0] 65) 3))) := ((Kp.refl _ _ _).alloc _).alloc _
  have HRA : Hid (RdI .i64 0 (w9.heap.size + 1 + 1) ((w9.alloc (.cells #[Value.int .i64 0, .int .i64 0, .int .i64 0, .slice oz 0 cz, .int .i64 0, .int .i64 0, .int .i64 0, .int .i64 0, .int .i64 0, .int .i64 0] 26)).alloc (.cells (madeCells #[.int .i64 0] 65) 3)) (.slice (some ⟨w9.heap.size + 1, 0, none⟩) 65 65) (List.replicate 65 0)) := by
    have h := made_rdI (w9.alloc (.cells #[Value.int .i64 0, .int .i64 0, .int .i64 0, .slice oz 0 cz, .int .i64 0, .int .i64 0, .int .i64 0, .int .i64 0, .int .i64 0, .int .i64 0] 26)) 65 (by decide)
    rw [hs5] at h
    exact h
  have HBZA : Hid (((w9.alloc (.cells #[Value.int .i64 0, .int .i64 0, .int .i64 0, .slice oz 0 cz, .int .i64 0, .int .i64 0, .int .i64 0, .int .i64 0, .int .i64 0, .int .i64 0] 26)).alloc (.cells (madeCells #[.int .i64 0] 65) 3)).heap[w9.heap.size]? = some (.cells #[Value.int .i64 0, .int .i64 0, .int .i64 0, .slice oz 0 cz, .int .i64 0, .int .i64 0, .int .i64 0, .int .i64 0, .int .i64 0, .int .i64 0] 26 (0, 0))) := ((Kp.refl 0 0 _).alloc _).heap (heap_alloc_new w9 _) (.inr (Nat.zero_le _))
  clear hs5
  go_wp2_with fail
  clear hmk
  generalize (w9.alloc (.cells #[Value.int .i64 0, .int .i64 0, .int .i64 0, .slice oz 0 cz, .int .i64 0, .int .i64 0, .int .i64 0, .int .i64 0, .int .i64 0, .int .i64 0] 26)).alloc (.cells (madeCells #[.int .i64 0] 65) 3) = w10 at HKA HRA HBZA ⊢
  generalize w9.heap.size = pz at HRA HBZA ⊢
  have HKw10 := Lib.hid (HKw9.out.trans HKA.out)
  have HX10 := Lib.hid (HX9.out.keep0 (HKA.out))
  have HRD10 := Lib.hid (HRD9.out.keep0 (HKA.out))
  have HBL10 := Lib.hid ((HKA.out).heap HBL9.out (.inr (Nat.zero_le _)))
  have HBX10 := Lib.hid ((HKA.out).heap HBX9.out (.inr (Nat.zero_le _)))
  have HZ10 := Lib.hid (HZ9.out.keep0 HKA.out)
  have hm := HP _ _ ⟨0, 0, 0, List.replicate 65 0, 0, 0, 0, 0, 0, 0⟩ w10 _ HRA.out many_fits (by decide)
  rw [many_put ⟨0, 0, 0, List.replicate 65 0, 0, 0, 0, 0, 0, 0⟩ (by decide)] at hm
  refine hm.mono ?_
  clear hm
  rintro r w11 ⟨vm, rfl, hown, hk⟩
  obtain ⟨om, cm, rfl, _, _, _⟩ := hown.rd.open
  have HKw11 := Lib.hid (HKw10.out.trans hk)
  have HX11 := Lib.hid (HX10.out.keep0 (hk))
  have HRD11 := Lib.hid (HRD10.out.keep0 (hk))
  have HBL11 := Lib.hid ((hk).heap HBL10.out (.inr (Nat.zero_le _)))
  have HBX11 := Lib.hid ((hk).heap HBX10.out (.inr (Nat.zero_le _)))
  have HZ11 := Lib.hid (HZ10.out.keep0 hk)
  have HBZ11 := Lib.hid (hk.heap HBZA.out (.inr (Nat.zero_le _)))
  clear hk hown
  simp only
  have hbl := HBL11.out
  obtain ⟨a0, _⟩ := rowE_cell hbl (k := 0) (show 0 < 10 by decide)
  change _ = some (Value.int .i64 0) at a0
  obtain ⟨a1, _⟩ := rowE_cell hbl (k := 1) (show 1 < 10 by decide)
  change _ = some (Value.int .i64 9223372036854775807) at a1
  obtain ⟨a2, _⟩ := rowE_cell hbl (k := 2) (show 2 < 10 by decide)
  change _ = some (Value.int .i64 9223372036854775807) at a2
  obtain ⟨a3, _⟩ := rowE_cell hbl (k := 3) (show 3 < 10 by decide)
  change _ = some (Value.slice (some ⟨pd, 0, none⟩) 1 1) at a3
  obtain ⟨a4, _⟩ := rowE_cell hbl (k := 4) (show 4 < 10 by decide)
  change _ = some (Value.int .i64 7) at a4
  obtain ⟨a5, _⟩ := rowE_cell hbl (k := 5) (show 5 < 10 by decide)
  change _ = some (Value.int .i64 9223372036854775807) at a5
  obtain ⟨a6, _⟩ := rowE_cell hbl (k := 6) (show 6 < 10 by decide)
  change _ = some (Value.int .i64 7) at a6
  obtain ⟨a7, _⟩ := rowE_cell hbl (k := 7) (show 7 < 10 by decide)
  change _ = some (Value.int .i64 5) at a7
  obtain ⟨a8, _⟩ := rowE_cell hbl (k := 8) (show 8 < 10 by decide)
  change _ = some (Value.int .i64 (-9223372036854775808)) at a8
  obtain ⟨a9, _⟩ := rowE_cell hbl (k := 9) (show 9 < 10 by decide)
  change _ = some (Value.int .i64 9223372036854775807) at a9
  clear hbl
  go_wp2_with fail
  have hm := HC _ _ lastE 1 w11 _ HRD11.out last_fits ⟨by decide, by decide⟩ (by decide)
  rw [last_chk] at hm
  refine hm.mono ?_
  clear hm a0 a1 a2 a3 a4 a5 a6 a7 a8 a9
  rintro r w12 ⟨rfl, hk⟩
  have HKw12 := Lib.hid (HKw11.out.trans hk)
  have HX12 := Lib.hid (HX11.out.keep0 (hk))
  have HRD12 := Lib.hid (HRD11.out.keep0 (hk))
  have HBL12 := Lib.hid ((hk).heap HBL11.out (.inr (Nat.zero_le _)))
  have HBX12 := Lib.hid ((hk).heap HBX11.out (.inr (Nat.zero_le _)))
  have HZ12 := Lib.hid (HZ11.out.keep0 hk)
  have HBZ12 := Lib.hid (hk.heap HBZ11.out (.inr (Nat.zero_le _)))
  clear hk
  have hbl := HBL12.out
  obtain ⟨a0, _⟩ := rowE_cell hbl (k := 0) (show 0 < 10 by decide)
  change _ = some (Value.int .i64 0) at a0
  obtain ⟨a1, _⟩ := rowE_cell hbl (k := 1) (show 1 < 10 by decide)
  change _ = some (Value.int .i64 9223372036854775807) at a1
  obtain ⟨a2, _⟩ := rowE_cell hbl (k := 2) (show 2 < 10 by decide)
  change _ = some (Value.int .i64 9223372036854775807) at a2
  obtain ⟨a3, _⟩ := rowE_cell hbl (k := 3) (show 3 < 10 by decide)
  change _ = some (Value.slice (some ⟨pd, 0, none⟩) 1 1) at a3
  obtain ⟨a4, _⟩ := rowE_cell hbl (k := 4) (show 4 < 10 by decide)
  change _ = some (Value.int .i64 7) at a4
  obtain ⟨a5, _⟩ := rowE_cell hbl (k := 5) (show 5 < 10 by decide)
  change _ = some (Value.int .i64 9223372036854775807) at a5
  obtain ⟨a6, _⟩ := rowE_cell hbl (k := 6) (show 6 < 10 by decide)
  change _ = some (Value.int .i64 7) at a6
  obtain ⟨a7, _⟩ := rowE_cell hbl (k := 7) (show 7 < 10 by decide)
  change _ = some (Value.int .i64 5) at a7
  obtain ⟨a8, _⟩ := rowE_cell hbl (k := 8) (show 8 < 10 by decide)
  change _ = some (Value.int .i64 (-9223372036854775808)) at a8
  obtain ⟨a9, _⟩ := rowE_cell hbl (k := 9) (show 9 < 10 by decide)
  change _ = some (Value.int .i64 9223372036854775807) at a9
  have hbx := HBX12.out
  obtain ⟨b0, _⟩ := rowE_cell hbx (k := 0) (show 0 < 10 by decide)
  change _ = some (Value.int .i64 0) at b0
  obtain ⟨b1, _⟩ := rowE_cell hbx (k := 1) (show 1 < 10 by decide)
  change _ = some (Value.int .i64 9223372036854775807) at b1
  obtain ⟨b2, _⟩ := rowE_cell hbx (k := 2) (show 2 < 10 by decide)
  change _ = some (Value.int .i64 9223372036854775807) at b2
  obtain ⟨b3, _⟩ := rowE_cell hbx (k := 3) (show 3 < 10 by decide)
  change _ = some (Value.slice ox 1 cx) at b3
  obtain ⟨b4, _⟩ := rowE_cell hbx (k := 4) (show 4 < 10 by decide)
  change _ = some (Value.int .i64 7) at b4
  obtain ⟨b5, _⟩ := rowE_cell hbx (k := 5) (show 5 < 10 by decide)
  change _ = some (Value.int .i64 9223372036854775807) at b5
  obtain ⟨b6, _⟩ := rowE_cell hbx (k := 6) (show 6 < 10 by decide)
  change _ = some (Value.int .i64 7) at b6
  obtain ⟨b7, _⟩ := rowE_cell hbx (k := 7) (show 7 < 10 by decide)
  change _ = some (Value.int .i64 5) at b7
  obtain ⟨b8, _⟩ := rowE_cell hbx (k := 8) (show 8 < 10 by decide)
  change _ = some (Value.int .i64 (-9223372036854775808)) at b8
  obtain ⟨b9, _⟩ := rowE_cell hbx (k := 9) (show 9 < 10 by decide)
  change _ = some (Value.int .i64 9223372036854775807) at b9
  clear hbl hbx
  go_wp2_with fail
  refine (sameE_yes w12 lastE (.slice ox 1 cx) (.slice (some ⟨pd, 0, none⟩) 1 1) HX12.out HRD12.out).mono ?_
  clear a0 a1 a2 a3 a4 a5 a6 a7 a8 a9 b0 b1 b2 b3 b4 b5 b6 b7 b8 b9
  rintro r w13 ⟨rfl, hk⟩
  have HKw13 := Lib.hid (HKw12.out.trans hk)
  have HX13 := Lib.hid (HX12.out.keep0 (hk))
  have HRD13 := Lib.hid (HRD12.out.keep0 (hk))
  have HBL13 := Lib.hid ((hk).heap HBL12.out (.inr (Nat.zero_le _)))
  have HBX13 := Lib.hid ((hk).heap HBX12.out (.inr (Nat.zero_le _)))
  have HZ13 := Lib.hid (HZ12.out.keep0 hk)
  have hbz := hk.heap HBZ12.out (.inr (Nat.zero_le _))
  clear hk
  obtain ⟨a0, _⟩ := rowE_cell hbz (k := 0) (show 0 < 10 by decide)
  change _ = some (Value.int .i64 0) at a0
  obtain ⟨a1, _⟩ := rowE_cell hbz (k := 1) (show 1 < 10 by decide)
  change _ = some (Value.int .i64 0) at a1
  obtain ⟨a2, _⟩ := rowE_cell hbz (k := 2) (show 2 < 10 by decide)
  change _ = some (Value.int .i64 0) at a2
  obtain ⟨a3, _⟩ := rowE_cell hbz (k := 3) (show 3 < 10 by decide)
  change _ = some (Value.slice oz 0 cz) at a3
  obtain ⟨a4, _⟩ := rowE_cell hbz (k := 4) (show 4 < 10 by decide)
  change _ = some (Value.int .i64 0) at a4
  obtain ⟨a5, _⟩ := rowE_cell hbz (k := 5) (show 5 < 10 by decide)
  change _ = some (Value.int .i64 0) at a5
  obtain ⟨a6, _⟩ := rowE_cell hbz (k := 6) (show 6 < 10 by decide)
  change _ = some (Value.int .i64 0) at a6
  obtain ⟨a7, _⟩ := rowE_cell hbz (k := 7) (show 7 < 10 by decide)
  change _ = some (Value.int .i64 0) at a7
  obtain ⟨a8, _⟩ := rowE_cell hbz (k := 8) (show 8 < 10 by decide)
  change _ = some (Value.int .i64 0) at a8
  obtain ⟨a9, _⟩ := rowE_cell hbz (k := 9) (show 9 < 10 by decide)
  change _ = some (Value.int .i64 0) at a9
  clear hbz
  go_wp2_with fail
  refine (sameE_yes w13 Ev.zero (.slice oz 0 cz) (.slice none 0 0) HZ13.out (RdI.nil .i64 0 0 w13)).mono ?_
  clear a0 a1 a2 a3 a4 a5 a6 a7 a8 a9
  rintro r w14 ⟨rfl, hk⟩
  have HKw14 := Lib.hid (HKw13.out.trans hk)
  have HX14 := Lib.hid (HX13.out.keep0 (hk))
  have HRD14 := Lib.hid (HRD13.out.keep0 (hk))
  have HBL14 := Lib.hid ((hk).heap HBL13.out (.inr (Nat.zero_le _)))
  have HBX14 := Lib.hid ((hk).heap HBX13.out (.inr (Nat.zero_le _)))
  clear hk
  go_wp2_with fail
  have hm := HC _ _ Ev.zero 0 w14 _ (RdI.nil .i64 0 0 w14) zero_fits ⟨by decide, by decide⟩ (by decide)
  rw [zero_chk] at hm
  refine hm.mono ?_
  clear hm
  rintro r w15 ⟨rfl, hk⟩
  have HKw15 := Lib.hid (HKw14.out.trans hk)
  have HX15 := Lib.hid (HX14.out.keep0 (hk))
  have HRD15 := Lib.hid (HRD14.out.keep0 (hk))
  have HBL15 := Lib.hid ((hk).heap HBL14.out (.inr (Nat.zero_le _)))
  have HBX15 := Lib.hid ((hk).heap HBX14.out (.inr (Nat.zero_le _)))
  clear hk
  go_wp2_with fail
  refine (small_any w15).mono ?_
  rintro r w16 ⟨ds, rfl, ho, hk⟩
  have HS16 := Lib.hid (ho.rd)
  have HKw16 := Lib.hid (HKw15.out.trans hk)
  have HX16 := Lib.hid (HX15.out.keep0 (hk))
  have HRD16 := Lib.hid (HRD15.out.keep0 (hk))
  have HBL16 := Lib.hid ((hk).heap HBL15.out (.inr (Nat.zero_le _)))
  have HBX16 := Lib.hid ((hk).heap HBX15.out (.inr (Nat.zero_le _)))
  clear hk ho
  go_wp2_with fail
  have hm := HC _ _ smallE (-1) w16 _ HS16.out small_fits ⟨by decide, by decide⟩ (by decide)
  rw [small_chkn] at hm
  refine hm.mono ?_
  clear hm
  rintro r w17 ⟨rfl, hk⟩
  have HKw17 := Lib.hid (HKw16.out.trans hk)
  have HX17 := Lib.hid (HX16.out.keep0 (hk))
  have HRD17 := Lib.hid (HRD16.out.keep0 (hk))
  have HBL17 := Lib.hid ((hk).heap HBL16.out (.inr (Nat.zero_le _)))
  have HBX17 := Lib.hid ((hk).heap HBX16.out (.inr (Nat.zero_le _)))
  clear hk
  go_wp2_with fail
  refine (eknown_any HC HP HG w17).mono ?_
  rintro r w18 ⟨rfl, hk⟩
  have HKz := Lib.hid (HKw17.out.trans hk)
  clear hk
  go_wp2_with fail
  go_returns
  exact ⟨rfl, HKz.out⟩

end Go.Proofs.Ytnboeagallkooaa
