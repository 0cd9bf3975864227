/-
  The contracts of package pack's own functions that lay bytes: encode, Int, Blob; and of the library functions that they call: slices.Grow of nil, slices.Concat.
-/
import Derived.Test.YtgokhagbknlfaaaProg
import Derived.Test.YtgokhagbknlfaaaLib
import Derived.Test.YtgokhagbknlfaaaKSame
import Derived.Test.YtgokhagbknlfaaaShelfI
import Derived.Test.YtgokhagbknlfaaaPlain
import Derived.Laws.BitsAllLaws
namespace Go.Proofs.Ytgokhagbknlfaaa
open Go.RowKit
set_option maxRecDepth 100000

/-- slices.Grow(nil, n): no element, and room for n. -/
theorem grow_any (n : Nat) (w : World) (h0 : 0 < n) (h1 : n ≤ 140737488355328) :
    Calls Try.prog 70 #[.slice none 0 0, .int .i64 (n : Int)] w fun e w' => ∃ v', e = .returned v' ∧ w'.ownsRow w.heap.size 5 1 v' 0 [] ∧ Kp 0 0 w w' := by
  obtain ⟨i0, hi, hz0, hz1, hz2⟩ := info_parts info_u8
  go_enter Try.func70, Try.ntmps70
  go_wp2_with (at_builtin; refine Lib.wpList_append_run _ rfl _ _ _ _ rfl _ _ rfl rfl _ _ (Lib.run_append_nil_zeros w 26 3 _ 5 i0 (.int .u8 0) .i64 .i64 Try.underlying26 Try.underlying3 hi hz0 n h0 (by omega) (by omega) (by rw [hz2]; omega)) ?_)
  go_ret
  have hge := grownCap_ge w n 0 5
  have hle := grownCap_le_maxLen w n 0 5 (by unfold maxLen; omega)
  refine ⟨_, rfl, ?_, (Kp.refl _ _ _).drew.alloc _⟩
  exact World.ownsRow_made w.drew _ _ (Nat.le_refl _) hle (by simp only [Array.size_append, size_zeroCells]; simp; omega)

/-- The lists of a family, one behind the other. -/
def cat (lf : Nat → List Int) : Nat → List Int
  | 0 => []
  | k + 1 => cat lf k ++ lf k

theorem cat_mono (lf : Nat → List Int) {k m : Nat} (h : k ≤ m) : (cat lf k).length ≤ (cat lf m).length := by
  induction m with
  | zero => obtain rfl : k = 0 := by omega
            exact Nat.le_refl _
  | succ m ih =>
    by_cases e : k = m + 1
    · subst e; exact Nat.le_refl _
    · have := ih (by omega)
      simp only [cat, List.length_append]
      omega

set_option maxHeartbeats 400000 in
/-- slices.Concat of slices of bytes: all of them, one behind the other, in new memory. -/
theorem concat_any {lo hi : Nat} (g m : Nat) (vf : Nat → Value) (lf : Nat → List Int) (w : World) (hm : m ≤ 4096) (hc : ∀ j, j < m → w.cell? ⟨g, j, none⟩ = some (vf j)) (hr : ∀ j, j < m → RdI .u8 lo hi w (vf j) (lf j))
    (h0 : 0 < (cat lf m).length) (h1 : (cat lf m).length ≤ 140737488351232) :
    Calls Try.prog 65 #[.slice (some ⟨g, 0, none⟩) m m] w fun e w' => ∃ v', e = .returned v' ∧ OwnI .u8 5 w.heap.size w'.heap.size w' v' (cat lf m) ∧ Kp 0 0 w w' := by
  have HC := Lib.hid hc
  have HR := Lib.hid hr
  clear hc hr
  have HM : Hid (∀ k, k < m → (cat lf (k + 1)).length = (cat lf k).length + (lf k).length ∧ (cat lf (k + 1)).length ≤ (cat lf m).length) := fun k hk => ⟨by simp [cat], cat_mono lf (by omega)⟩
  have HZ : Hid (cat lf 0 = []) := rfl
  go_enter Try.func65, Try.ntmps65
  go_wp2_with fail
  go_loop [3, 5, 11] (fun t _ i => ∃ k : Nat, k ≤ m ∧ i = .int .i64 k ∧ t = .int .i64 ((cat lf k).length : Nat)) (fun _ _ i => m - (intOf i).toNat)
  case atStart => exact ⟨0, Nat.zero_le _, rfl, by rw [HZ.out]; rfl⟩
  case round =>
    obtain ⟨k, hk, rfl, rfl⟩ := hrel
    by_cases hlt : k < m
    · have c1 := HC.out k hlt
      obtain ⟨ao, c, hv, _, _, _⟩ := (HR.out k hlt).open
      rw [hv] at c1
      clear hv
      have hS := HM.out k hlt
      have hS2 := hS.2
      have HS := Lib.hid hS.1
      clear hS
      have hbd : (cat lf k).length + (lf k).length ≤ (cat lf m).length := by have := HS.out; omega
      go_wp2_with fail
      go_round
      case rel => exact ⟨k + 1, by omega, by go_num, by rw [HS.out]; go_num⟩
      case measure => simp [intOf]; omega
    · obtain rfl : m = k := by omega
      go_wp2_with fail
      refine (grow_any _ _ h0 (by omega)).mono ?_
      rintro e w1 ⟨v1, rfl, hown0, hkp0⟩
      have HO0 := Lib.hid hown0
      clear hown0
      go_wp2_with fail
      go_loopw [6, 8, 27] (fun v' _ i wr => ∃ k : Nat, k ≤ m ∧ i = .int .i64 k ∧ wr.ownsRow w.heap.size 5 1 v' (cat lf k).length ((cat lf k).map (.int .u8)) ∧ Kp 0 0 w wr) (fun _ _ i _ => m - (intOf i).toNat)
      case atStart => exact ⟨0, Nat.zero_le _, rfl, by rw [HZ.out]; exact HO0.out, hkp0⟩
      case round =>
        obtain ⟨k, hk', rfl, hown, hkp⟩ := hrel
        by_cases hlt : k < m
        · have c1 := hkp.cell (HC.out k hlt) (.inr (Nat.zero_le _))
          have hr1 := (HR.out k hlt).keep0 hkp
          have HR1 := Lib.hid hr1
          obtain ⟨ao, c, hv, _, _, _⟩ := hr1.open
          clear hr1
          rw [hv] at c1 HR1
          clear hv
          have hS := HM.out k hlt
          have hS2 := hS.2
          have HS := Lib.hid hS.1
          clear hS
          have hbd : (cat lf k).length + (lf k).length ≤ (cat lf m).length := by have := HS.out; omega
          have hsz := hkp.size
          have HO := Lib.hid hown
          clear hown
          go_wp2_with (at_builtin; refine wpList_app rfl _ _ 26 rfl w.heap.size 5 .u8 1 Try.underlying26 info_u8 _ _ _ rfl HO.out _ rfl (lf k) HR1.out ?c3 ?c4 ?c5 ?_)
          case c3 => unfold maxLen; omega
          case c4 => omega
          case c5 => exact hsz
          intro v' w2 hown' hg
          have HK := Lib.hid (hkp.grown hg fun j hj => .inl ((HO.out.lt j hj).1))
          have HO' := Lib.hid hown'
          clear hown' hg hkp
          go_wp2_with fail
          go_roundw
          case rel =>
            refine ⟨k + 1, by omega, by go_num, ?_, HK.out⟩
            have ho := HO'.out
            rw [HS.out]
            show World.ownsRow _ _ _ _ _ _ (List.map _ (cat lf k ++ lf k))
            rw [List.map_append]
            exact ho
          case measure => simp [intOf]; omega
        · obtain rfl : m = k := by omega
          go_wp2_with fail
          go_ret
          exact ⟨_, rfl, OwnI.of_row hown, hkp⟩

theorem quo8 (u : Nat) : ((Lib.bitLen u : Int) + 7) / 8 = (Pk.sz u : Int) := by unfold Pk.sz; omega

theorem shl8_or (u : Nat) (y : Int) (hu : u < 256 ^ 7) (hy : 0 ≤ y ∧ y < 256) : bits BinOp.or IntKind.u64 ((u : Int) * 256) y = ((u * 256 + y.toNat : Nat) : Int) := by
  obtain ⟨n, rfl⟩ := Int.eq_ofNat_of_zero_le hy.1
  have hu' : u < 72057594037927936 := hu
  have e : ((u : Int) * 256) = ((u * 256 : Nat) : Int) := by omega
  rw [e, u64_or_nat _ _ (by omega) (by omega)]
  congr 1
  have := Nat.shiftLeft_add_eq_or_of_lt (b := n) (i := 8) (by omega) u
  rw [Nat.shiftLeft_eq] at this
  rw [show (256 : Nat) = 2 ^ 8 from rfl, ← this]
  rfl

theorem neg_u64 (u : Nat) (h0 : 0 < u) (h : u ≤ 9223372036854775808) : IntKind.u64.wrap (-IntKind.u64.wrap (-(u : Int))) = (u : Int) := by
  simp only [IntKind.wrap, IntKind.bits, IntKind.signed, Bool.false_and, Bool.false_eq_true, if_false]
  omega

theorem enc_pos (u : Nat) (w : World) (h : u ≤ 9223372036854775807) :
    Calls Try.prog 66 #[.int .i64 (u : Int)] w fun e w' => ∃ v', e = .returned v' ∧ OwnI .u8 5 w.heap.size w'.heap.size w' v' (Pk.enc u) ∧ Kp 0 0 w w' := by
  obtain ⟨i0, hi, hz0, hz1, hz2⟩ := info_parts info_u8
  have hbl := Pk.bitLen_le (u := u) (by omega)
  have hs8 := Pk.sz_le (u := u) (by omega)
  go_enter Try.func66, Try.ntmps66
  go_wp2_with (go_at_call 71; refine (len64 _ _ (by omega) (by omega)).mono ?_; rintro e w1 ⟨rfl, rfl⟩; simp only [Int.toNat_natCast])
  simp only [quo8]
  have HT : Hid (∀ k, k < Pk.sz u → (Pk.be u).take (k + 1) = (Pk.be u).take k ++ [Pk.dig u (Pk.sz u - 1 - k)]) := fun k hk => Pk.be_take hk
  have HF : Hid ((((Pk.sz u : Int) :: (Pk.be u).take (Pk.sz u))) = Pk.enc u) := by
    have hn : ¬ (u : Int) < 0 := by omega
    show _ = _
    simp [Pk.enc, Pk.hd, List.take_of_length_le (Nat.le_of_eq (Pk.be_length u)), hn]
  generalize hs : Pk.sz u = s at hs8 HT HF
  have HZ := Lib.hid hs
  clear hs
  go_loopw [6, 7] (fun v' i wr => ∃ k : Nat, k ≤ s ∧ i = .int .i64 ((s : Int) - 1 - k) ∧ wr.ownsRow w1.heap.size 5 1 v' (k + 1) ((((s : Int) :: (Pk.be u).take k)).map (.int .u8)) ∧ Kp 0 0 w1 wr) (fun _ i _ => (intOf i + 1).toNat)
  case atStart => exact ⟨0, Nat.zero_le _, by simp, own_lit #[_] _ (Nat.le_refl _) rfl (by decide), (Kp.refl _ _ _).alloc _⟩
  case round =>
    obtain ⟨k, hk, rfl, hown, hkp⟩ := hrel
    by_cases hlt : k < s
    · have HS := Lib.hid (HT.out k hlt)
      have hsz := hkp.size
      go_wp2_with (at_builtin; refine wpList_append_own _ rfl _ _ 26 rfl w1.heap.size 5 i0 (.int .u8 0) 1 1 Try.underlying26 hi hz0 hz1 hz2 rfl (by decide) _ _ _ rfl (hown.alloc _) ⟨wr.heap.size, 0, none⟩ 1 1 [.int .u8 ((u : Int) / 2 ^ (8 * (s - 1 - k)) % 256)] rfl rfl (cell_one _ _ _) (by simp [Value.oneCell']) ?c3 ?c4 ?c5 ?_)
      case c3 => unfold maxLen; omega
      case c4 => omega
      case c5 => simp; omega
      intro v' w2 hown' hg _
      have HK := Lib.hid ((hkp.alloc _).grown hg fun j hj => .inl ((hown.lt j hj).1))
      have HO := Lib.hid hown'
      clear hown' hg hown hkp
      go_wp2
      go_roundw
      case rel =>
        refine ⟨k + 1, by omega, by go_num, ?_, HK.out⟩
        have ho := HO.out
        rw [Pk.dig_shift] at ho
        rw [HS.out]
        simpa using ho
      case measure => simp [intOf]; omega
    · obtain rfl : k = s := by omega
      go_wp2
      go_ret
      refine ⟨_, rfl, ?_, hkp⟩
      rw [← HF.out]
      refine OwnI.of_rowN hown ?_
      rw [List.length_cons, List.length_take, Pk.be_length]
      have := HZ.out
      omega
theorem enc_neg (u : Nat) (w : World) (h : u ≤ 9223372036854775808) (h0 : 0 < u) :
    Calls Try.prog 66 #[.int .i64 (-(u : Int))] w fun e w' => ∃ v', e = .returned v' ∧ OwnI .u8 5 w.heap.size w'.heap.size w' v' (Pk.enc (-(u : Int))) ∧ Kp 0 0 w w' := by
  obtain ⟨i0, hi, hz0, hz1, hz2⟩ := info_parts info_u8
  have hbl := Pk.bitLen_le (u := u) (by omega)
  have hs8 := Pk.sz_le (u := u) (by omega)
  go_enter Try.func66, Try.ntmps66
  go_wp2_with fail
  rw [neg_u64 u h0 h]
  generalize IntKind.u64.wrap (-(u : Int)) = z
  refine (len64 _ _ (by omega) (by omega)).mono ?_
  rintro e w1 ⟨rfl, rfl⟩
  simp only [Int.toNat_natCast]
  go_wp2_with fail
  simp only [quo8]
  have HT : Hid (∀ k, k < Pk.sz u → (Pk.be u).take (k + 1) = (Pk.be u).take k ++ [Pk.dig u (Pk.sz u - 1 - k)]) := fun k hk => Pk.be_take hk
  have HF : Hid ((((16 + (Pk.sz u : Int)) :: (Pk.be u).take (Pk.sz u))) = Pk.enc (-(u : Int))) := by
    have hn : (-(u : Int)) < 0 := by omega
    show _ = _
    simp [Pk.enc, Pk.hd, List.take_of_length_le (Nat.le_of_eq (Pk.be_length u)), h0, Int.add_comm]
  generalize hs : Pk.sz u = s at hs8 HT HF
  have HZ := Lib.hid hs
  clear hs
  go_loopw [6, 7] (fun v' i wr => ∃ k : Nat, k ≤ s ∧ i = .int .i64 ((s : Int) - 1 - k) ∧ wr.ownsRow w1.heap.size 5 1 v' (k + 1) ((((16 + (s : Int)) :: (Pk.be u).take k)).map (.int .u8)) ∧ Kp 0 0 w1 wr) (fun _ i _ => (intOf i + 1).toNat)
  case atStart => exact ⟨0, Nat.zero_le _, by simp, own_lit #[_] _ (Nat.le_refl _) rfl (by decide), (Kp.refl _ _ _).alloc _⟩
  case round =>
    obtain ⟨k, hk, rfl, hown, hkp⟩ := hrel
    by_cases hlt : k < s
    · have HS := Lib.hid (HT.out k hlt)
      have hsz := hkp.size
      go_wp2_with (at_builtin; refine wpList_append_own _ rfl _ _ 26 rfl w1.heap.size 5 i0 (.int .u8 0) 1 1 Try.underlying26 hi hz0 hz1 hz2 rfl (by decide) _ _ _ rfl (hown.alloc _) ⟨wr.heap.size, 0, none⟩ 1 1 [.int .u8 ((u : Int) / 2 ^ (8 * (s - 1 - k)) % 256)] rfl rfl (cell_one _ _ _) (by simp [Value.oneCell']) ?c3 ?c4 ?c5 ?_)
      case c3 => unfold maxLen; omega
      case c4 => omega
      case c5 => simp; omega
      intro v' w2 hown' hg _
      have HK := Lib.hid ((hkp.alloc _).grown hg fun j hj => .inl ((hown.lt j hj).1))
      have HO := Lib.hid hown'
      clear hown' hg hown hkp
      go_wp2
      go_roundw
      case rel =>
        refine ⟨k + 1, by omega, by go_num, ?_, HK.out⟩
        have ho := HO.out
        rw [Pk.dig_shift] at ho
        rw [HS.out]
        simpa using ho
      case measure => simp [intOf]; omega
    · obtain rfl : k = s := by omega
      go_wp2
      go_ret
      refine ⟨_, rfl, ?_, hkp⟩
      rw [← HF.out]
      refine OwnI.of_rowN hown ?_
      rw [List.length_cons, List.length_take, Pk.be_length]
      have := HZ.out
      omega
theorem encode_any (n : Int) (w : World) (h1 : -9223372036854775808 ≤ n) (h2 : n ≤ 9223372036854775807) :
    Calls Try.prog 66 #[.int .i64 n] w fun e w' => ∃ v', e = .returned v' ∧ OwnI .u8 5 w.heap.size w'.heap.size w' v' (Pk.enc n) ∧ Kp 0 0 w w' := by
  by_cases h : 0 ≤ n
  · obtain ⟨u, rfl⟩ := Int.eq_ofNat_of_zero_le h
    exact enc_pos u w (by omega)
  · obtain ⟨u, hu⟩ := Int.eq_ofNat_of_zero_le (a := -n) (by omega)
    obtain rfl : n = -(u : Int) := by omega
    exact enc_neg u w (by omega) (by omega)

theorem enc_len {n : Int} (h1 : -9223372036854775808 ≤ n) (h2 : n ≤ 9223372036854775807) : 1 ≤ (Pk.enc n).length ∧ (Pk.enc n).length ≤ 9 := by
  have := Pk.sz_le (u := n.natAbs) (by omega)
  rw [Pk.enc_length]
  omega

def two {α : Type} (a b : α) : Nat → α := fun j => if j = 0 then a else b
def three {α : Type} (a b c : α) : Nat → α := fun j => if j = 0 then a else if j = 1 then b else c

theorem cat_two (a b : List Int) : cat (two a b) 2 = a ++ b := by simp [cat, two]
theorem cat_three (a b c : List Int) : cat (three a b c) 3 = a ++ (b ++ c) := by simp [cat, three]

/-- pack.Int: b, and behind it the number's bytes, in new memory. -/
theorem int_any {lo hi : Nat} (vb : Value) (lb : List Int) (n : Int) (w : World) (hb : RdI .u8 lo hi w vb lb) (hl : lb.length ≤ 140737488350000) (h1 : -9223372036854775808 ≤ n) (h2 : n ≤ 9223372036854775807) :
    Calls Try.prog 55 #[vb, .int .i64 n] w fun e w' => ∃ v', e = .returned v' ∧ OwnI .u8 5 w.heap.size w'.heap.size w' v' (lb ++ Pk.enc n) ∧ Kp 0 0 w w' := by
  have HL := Lib.hid (enc_len h1 h2)
  obtain ⟨ao, c, rfl, _, _, _⟩ := hb.open
  have HB := Lib.hid hb
  clear hb
  go_enter Try.func55, Try.ntmps55
  go_wp2_with fail
  refine (encode_any n _ h1 h2).mono ?_
  rintro e w1 ⟨v1, rfl, hown, hkp⟩
  obtain ⟨ao1, c1, rfl, _, _, _⟩ := hown.rd.open
  have HK := Lib.hid hkp
  have HO := Lib.hid hown
  clear hown hkp
  go_wp2_with fail
  generalize Value.slice ao lb.length c = vb at *
  generalize Value.slice ao1 (Pk.enc n).length c1 = v1 at *
  have hc : ∀ j, j < 2 → (w1.alloc (.cells #[vb, v1] 26)).cell? ⟨w1.heap.size, j, none⟩ = some (two vb v1 j) := by
    intro j hj
    match j, hj with
    | 0, _ => simp [two]
    | 1, _ => simp [two]
  have hk1 : Kp 0 0 w (w1.alloc (.cells #[vb, v1] 26)) := HK.out.alloc _
  have hr : ∀ j, j < 2 → RdI .u8 0 (w1.alloc (.cells #[vb, v1] 26)).heap.size (w1.alloc (.cells #[vb, v1] 26)) (two vb v1 j) (two lb (Pk.enc n) j) := by
    intro j hj
    match j, hj with
    | 0, _ => exact ((HB.out.keep0 hk1).there).wide (Nat.zero_le _) (Nat.le_refl _)
    | 1, _ => exact ((HO.out.rd.keep0 ((Kp.refl 0 0 w1).alloc _)).there).wide (Nat.zero_le _) (Nat.le_refl _)
  refine (concat_any w1.heap.size 2 (two vb v1) (two lb (Pk.enc n)) _ (by omega) hc hr (by rw [cat_two, List.length_append]; have := HL.out; omega) (by rw [cat_two, List.length_append]; have := HL.out; omega)).mono ?_
  rintro e w2 ⟨v2, rfl, hown2, hkp2⟩
  rw [cat_two] at hown2
  have HK2 := Lib.hid (hk1.trans hkp2)
  have HO2 := Lib.hid (hown2.wide (lo' := w.heap.size) (hi' := w2.heap.size) hk1.size (Nat.le_refl _))
  clear hown2 hkp2 hc hr hk1
  go_wp2_with fail
  go_ret
  exact ⟨_, rfl, HO2.out, HK2.out⟩

end Go.Proofs.Ytgokhagbknlfaaa
