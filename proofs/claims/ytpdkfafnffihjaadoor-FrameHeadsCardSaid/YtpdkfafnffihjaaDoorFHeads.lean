/-
  FrameHeads as a contract, where Put and Get keep the document.
-/
import Derived.Test.YtpdkfafnffihjaaDoorFSpec
import Derived.Test.YtpdkfafnffihjaaDoorBits
namespace Go.Proofs.YtpdkfafnffihjaaDoor
open Go.RowKit

set_option maxRecDepth 100000 in
set_option maxHeartbeats 2000000 in
theorem heads_any {h1 : Nat} (HP : PutOk) (HG : GetOk) (k x1 x2 x3 : Nat) (r : List Nat) (w : World) (v : Value) (bk : k < 256) (b1 : x1 < 256) (b2 : x2 < 256) (b3 : x3 < 256) (hr : RdI .u8 0 h1 w v (ints r)) (rb : ∀ x ∈ r, x < 256) (ht : Tabs w) :
    Calls Tryd.prog 8 #[.int .u8 k, .int .u8 x1, .int .u8 x2, .int .u8 x3, v] w fun e w' => e = .returned (.bool true) ∧ Kp 0 0 w w' := by
  obtain ⟨ao, c, rfl, hb1, hb2, _⟩ := hr.open
  rw [ints_len] at hb1 hr ⊢
  have HR := Lib.hid hr
  have RB := Lib.hid rb
  have HT := Lib.hid ht
  clear hr rb ht
  by_cases h12 : 4096 < r.length
  · go_enter Tryd.func8, Tryd.ntmps8
    go_wp2_with fail
    refine (shown_any HP HG _ HT.out).mono ?_
    rintro e w1 ⟨rfl, hk⟩
    go_wp2_with fail
    go_returns
    exact ⟨rfl, hk⟩
  have HL4 : Hid ((w.alloc (.cells #[.int .u8 (k : Int), .int .u8 (x1 : Int), .int .u8 (x2 : Int), .int .u8 (x3 : Int)] 5)).ownsRow w.heap.size 5 1 (.slice (some ⟨w.heap.size, 0, none⟩) 4 4) 4 ((ints [k, x1, x2, x3]).map (.int .u8))) := own_lit (w := w) (base := w.heap.size) (n := 4) #[.int .u8 (k : Int), .int .u8 (x1 : Int), .int .u8 (x2 : Int), .int .u8 (x3 : Int)] 5 (Nat.le_refl _) rfl (by decide)
  have HKA : Hid (Kp 0 0 w (w.alloc (.cells #[.int .u8 (k : Int), .int .u8 (x1 : Int), .int .u8 (x2 : Int), .int .u8 (x3 : Int)] 5))) := (Kp.refl _ _ _).alloc _
  have hor := or_three x1 x2 x3 b1 b2 b3
  have HBL : Hid (Fr.blen (k :: x1 :: x2 :: x3 :: r) = 65536 * x1 + 256 * x2 + x3) := rfl
  have HLB : Hid (∀ x ∈ k :: x1 :: x2 :: x3 :: r, x < 256) := fun x hx => by
    simp only [List.mem_cons] at hx
    rcases hx with rfl | rfl | rfl | rfl | h
    · exact bk
    · exact b1
    · exact b2
    · exact b3
    · exact RB.out x h
  have hl4 : ¬ (k :: x1 :: x2 :: x3 :: r).length < 4 := by simp
  generalize hN : 65536 * x1 + 256 * x2 + x3 = N at hor HBL
  have hNr : N < 16777216 := by omega
  by_cases hk0 : k = 0
  · have hz : ((k : Int) == 0) = true := by simp [hk0]
    have hg0 := get_kind hl4 (show (k :: x1 :: x2 :: x3 :: r).getD 0 0 = 0 from hk0)
    have HG0 := Lib.hid hg0
    clear hg0 hk0
    go_enter Tryd.func8, Tryd.ntmps8
    go_wp2_with (at_builtin; refine wpList_app rfl _ _ 22 rfl w.heap.size 5 .u8 1 Tryd.underlying22 info_u8 _ 4 ((ints [k, x1, x2, x3]).map (.int .u8)) rfl HL4.out _ rfl (ints r) (HR.out.keep0 HKA.out) ?c3 ?c4 ?c5 ?_)
    case c3 => rw [ints_len]; unfold maxLen; omega
    case c4 => rw [ints_len]; omega
    case c5 => simp
    intro v2 w2 hown2 hg2
    have HK2 : Hid (Kp 0 0 w w2) := HKA.out.grown hg2 fun j hj => .inl (by
      simp only [Value.ownBlock, Option.some.injEq] at hj
      omega)
    have HRD : Hid (RdI .u8 w.heap.size w2.heap.size w2 v2 (ints (k :: x1 :: x2 :: x3 :: r))) := (OwnI.of_rowN (l := ints (k :: x1 :: x2 :: x3 :: r)) (n := 4 + (ints r).length) hown2 (by simp [ints]; omega)).rd
    clear hown2 hg2
    go_wp2_with fail
    have hget := HG _ _ _ _ _ HRD.out HLB.out (HT.out.keep HK2.out)
    rw [HG0.out] at hget
    refine hget.mono ?_
    clear hget
    rintro e w3 ⟨vb, rfl, hown3, hk3⟩
    obtain ⟨aob, cb, rfl, _, _, _⟩ := hown3.rd.open
    have HK3 := Lib.hid (HK2.out.trans hk3)
    clear hown3 hk3
    go_wp2_with fail
    refine (shown_any HP HG _ (HT.out.keep (HK3.out.alloc _))).mono ?_
    rintro e w4 ⟨rfl, hk4⟩
    go_wp2_with fail
    go_returns
    exact ⟨rfl, (HK3.out.alloc _).trans hk4⟩
  have hz : ((k : Int) == 0) = false := beq_eq_false_iff_ne.2 (by omega)
  have hk0' : (k :: x1 :: x2 :: x3 :: r).getD 0 0 ≠ 0 := hk0
  by_cases hl : 65536 < N
  · have hg0 := get_long hl4 hk0' (by rw [HBL.out]; exact hl)
    have HG0 := Lib.hid hg0
    clear hg0
    go_enter Tryd.func8, Tryd.ntmps8
    go_wp2_with (at_builtin; refine wpList_app rfl _ _ 22 rfl w.heap.size 5 .u8 1 Tryd.underlying22 info_u8 _ 4 ((ints [k, x1, x2, x3]).map (.int .u8)) rfl HL4.out _ rfl (ints r) (HR.out.keep0 HKA.out) ?c3 ?c4 ?c5 ?_)
    case c3 => rw [ints_len]; unfold maxLen; omega
    case c4 => rw [ints_len]; omega
    case c5 => simp
    intro v2 w2 hown2 hg2
    have HK2 : Hid (Kp 0 0 w w2) := HKA.out.grown hg2 fun j hj => .inl (by
      simp only [Value.ownBlock, Option.some.injEq] at hj
      omega)
    have HRD : Hid (RdI .u8 w.heap.size w2.heap.size w2 v2 (ints (k :: x1 :: x2 :: x3 :: r))) := (OwnI.of_rowN (l := ints (k :: x1 :: x2 :: x3 :: r)) (n := 4 + (ints r).length) hown2 (by simp [ints]; omega)).rd
    clear hown2 hg2
    go_wp2_with fail
    have hget := HG _ _ _ _ _ HRD.out HLB.out (HT.out.keep HK2.out)
    rw [HG0.out] at hget
    refine hget.mono ?_
    clear hget
    rintro e w3 ⟨vb, rfl, hown3, hk3⟩
    obtain ⟨aob, cb, rfl, _, _, _⟩ := hown3.rd.open
    have HK3 := Lib.hid (HK2.out.trans hk3)
    clear hown3 hk3
    go_wp2_with fail
    refine (shown_any HP HG _ (HT.out.keep (HK3.out.alloc _))).mono ?_
    rintro e w4 ⟨rfl, hk4⟩
    go_wp2_with fail
    go_returns
    exact ⟨rfl, (HK3.out.alloc _).trans hk4⟩
  by_cases hs : r.length < N + 5
  · have hg0 := get_part hl4 hk0' (by rw [HBL.out]; exact hl) (by rw [HBL.out]; simp; omega)
    have HG0 := Lib.hid hg0
    clear hg0
    go_enter Tryd.func8, Tryd.ntmps8
    go_wp2_with (at_builtin; refine wpList_app rfl _ _ 22 rfl w.heap.size 5 .u8 1 Tryd.underlying22 info_u8 _ 4 ((ints [k, x1, x2, x3]).map (.int .u8)) rfl HL4.out _ rfl (ints r) (HR.out.keep0 HKA.out) ?c3 ?c4 ?c5 ?_)
    case c3 => rw [ints_len]; unfold maxLen; omega
    case c4 => rw [ints_len]; omega
    case c5 => simp
    intro v2 w2 hown2 hg2
    have HK2 : Hid (Kp 0 0 w w2) := HKA.out.grown hg2 fun j hj => .inl (by
      simp only [Value.ownBlock, Option.some.injEq] at hj
      omega)
    have HRD : Hid (RdI .u8 w.heap.size w2.heap.size w2 v2 (ints (k :: x1 :: x2 :: x3 :: r))) := (OwnI.of_rowN (l := ints (k :: x1 :: x2 :: x3 :: r)) (n := 4 + (ints r).length) hown2 (by simp [ints]; omega)).rd
    clear hown2 hg2
    go_wp2_with fail
    have hget := HG _ _ _ _ _ HRD.out HLB.out (HT.out.keep HK2.out)
    rw [HG0.out] at hget
    refine hget.mono ?_
    clear hget
    rintro e w3 ⟨vb, rfl, hown3, hk3⟩
    obtain ⟨aob, cb, rfl, _, _, _⟩ := hown3.rd.open
    have HK3 := Lib.hid (HK2.out.trans hk3)
    clear hown3 hk3
    go_wp2_with fail
    refine (shown_any HP HG _ (HT.out.keep (HK3.out.alloc _))).mono ?_
    rintro e w4 ⟨rfl, hk4⟩
    go_wp2_with fail
    go_returns
    exact ⟨rfl, (HK3.out.alloc _).trans hk4⟩
  have hn9 : ¬ (k :: x1 :: x2 :: x3 :: r).length < Fr.blen (k :: x1 :: x2 :: x3 :: r) + 9 := by rw [HBL.out]; simp; omega
  by_cases hw : (k :: x1 :: x2 :: x3 :: r).take (Fr.blen (k :: x1 :: x2 :: x3 :: r) + 9) = Fr.enc ((k :: x1 :: x2 :: x3 :: r).getD 0 0) (Fr.body (k :: x1 :: x2 :: x3 :: r))
  · have hg0 := get_whole hl4 hk0' (by rw [HBL.out]; exact hl) hn9 hw
    rw [HBL.out] at hg0
    have HG0 := Lib.hid hg0
    clear hg0
    go_enter Tryd.func8, Tryd.ntmps8
    go_wp2_with (at_builtin; refine wpList_app rfl _ _ 22 rfl w.heap.size 5 .u8 1 Tryd.underlying22 info_u8 _ 4 ((ints [k, x1, x2, x3]).map (.int .u8)) rfl HL4.out _ rfl (ints r) (HR.out.keep0 HKA.out) ?c3 ?c4 ?c5 ?_)
    case c3 => rw [ints_len]; unfold maxLen; omega
    case c4 => rw [ints_len]; omega
    case c5 => simp
    intro v2 w2 hown2 hg2
    have HK2 : Hid (Kp 0 0 w w2) := HKA.out.grown hg2 fun j hj => .inl (by
      simp only [Value.ownBlock, Option.some.injEq] at hj
      omega)
    have HRD : Hid (RdI .u8 w.heap.size w2.heap.size w2 v2 (ints (k :: x1 :: x2 :: x3 :: r))) := (OwnI.of_rowN (l := ints (k :: x1 :: x2 :: x3 :: r)) (n := 4 + (ints r).length) hown2 (by simp [ints]; omega)).rd
    clear hown2 hg2
    go_wp2_with fail
    have hget := HG _ _ _ _ _ HRD.out HLB.out (HT.out.keep HK2.out)
    rw [HG0.out] at hget
    refine hget.mono ?_
    clear hget
    rintro e w3 ⟨vb, rfl, hown3, hk3⟩
    obtain ⟨aob, cb, rfl, _, _, _⟩ := hown3.rd.open
    have HK3 := Lib.hid (HK2.out.trans hk3)
    clear hown3 hk3
    go_wp2_with fail
    refine (shown_any HP HG _ (HT.out.keep (HK3.out.alloc _))).mono ?_
    rintro e w4 ⟨rfl, hk4⟩
    go_wp2_with fail
    go_returns
    exact ⟨rfl, (HK3.out.alloc _).trans hk4⟩
  · have hg0 := get_wrong hl4 hk0' (by rw [HBL.out]; exact hl) hn9 hw
    have HG0 := Lib.hid hg0
    clear hg0
    go_enter Tryd.func8, Tryd.ntmps8
    go_wp2_with (at_builtin; refine wpList_app rfl _ _ 22 rfl w.heap.size 5 .u8 1 Tryd.underlying22 info_u8 _ 4 ((ints [k, x1, x2, x3]).map (.int .u8)) rfl HL4.out _ rfl (ints r) (HR.out.keep0 HKA.out) ?c3 ?c4 ?c5 ?_)
    case c3 => rw [ints_len]; unfold maxLen; omega
    case c4 => rw [ints_len]; omega
    case c5 => simp
    intro v2 w2 hown2 hg2
    have HK2 : Hid (Kp 0 0 w w2) := HKA.out.grown hg2 fun j hj => .inl (by
      simp only [Value.ownBlock, Option.some.injEq] at hj
      omega)
    have HRD : Hid (RdI .u8 w.heap.size w2.heap.size w2 v2 (ints (k :: x1 :: x2 :: x3 :: r))) := (OwnI.of_rowN (l := ints (k :: x1 :: x2 :: x3 :: r)) (n := 4 + (ints r).length) hown2 (by simp [ints]; omega)).rd
    clear hown2 hg2
    go_wp2_with fail
    have hget := HG _ _ _ _ _ HRD.out HLB.out (HT.out.keep HK2.out)
    rw [HG0.out] at hget
    refine hget.mono ?_
    clear hget
    rintro e w3 ⟨vb, rfl, hown3, hk3⟩
    obtain ⟨aob, cb, rfl, _, _, _⟩ := hown3.rd.open
    have HK3 := Lib.hid (HK2.out.trans hk3)
    clear hown3 hk3
    go_wp2_with fail
    refine (shown_any HP HG _ (HT.out.keep (HK3.out.alloc _))).mono ?_
    rintro e w4 ⟨rfl, hk4⟩
    go_wp2_with fail
    go_returns
    exact ⟨rfl, (HK3.out.alloc _).trans hk4⟩

end Go.Proofs.YtpdkfafnffihjaaDoor
