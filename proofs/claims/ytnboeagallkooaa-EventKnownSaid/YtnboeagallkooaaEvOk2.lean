/-
  The landed Put keeps the document; slices.Concat of rows of ints.
-/
import Derived.Test.YtnboeagallkooaaEvSpec
import Derived.Test.YtnboeagallkooaaCodeI
namespace Go.Proofs.Ytnboeagallkooaa
open Go.RowKit

/-- slices.Grow(nil, n): no element, and room for n. -/
theorem growI_any (n : Nat) (w : World) (h0 : 0 < n) (h1 : n ≤ 1000000) :
    Calls Try.prog 36 #[.slice none 0 0, .int .i64 (n : Int)] w fun e w' => ∃ v', e = .returned v' ∧ w'.ownsRow w.heap.size 3 1 v' 0 [] ∧ Kp 0 0 w w' := by
  obtain ⟨i0, hi, hz0, hz1, hz2⟩ := info_parts info_int
  go_enter Try.func36, Try.ntmps36
  go_wp2_with (at_builtin; refine Lib.wpList_append_run _ rfl _ _ _ _ rfl _ _ rfl rfl _ _ (Lib.run_append_nil_zeros w 24 3 _ 3 i0 (.int .i64 0) .i64 .i64 Try.underlying24 Try.underlying3 hi hz0 n h0 (by omega) (by omega) (by rw [hz2]; omega)) ?_)
  go_ret
  have hge := grownCap_ge w n 0 3
  have hle := grownCap_le_maxLen w n 0 3 (by unfold maxLen; omega)
  refine ⟨_, rfl, ?_, (Kp.refl _ _ _).drew.alloc _⟩
  exact World.ownsRow_made w.drew _ _ (Nat.le_refl _) hle (by simp only [Array.size_append, size_zeroCells]; simp; omega)

set_option maxHeartbeats 400000 in
/-- slices.Concat of slices of bytes: all of them, one behind the other, in new memory. -/
theorem concatI_any {lo hi : Nat} (g m : Nat) (vf : Nat → Value) (lf : Nat → List Int) (w : World) (hm : m ≤ 4096) (hc : ∀ j, j < m → w.cell? ⟨g, j, none⟩ = some (vf j)) (hr : ∀ j, j < m → RdI .i64 lo hi w (vf j) (lf j))
    (h0 : 0 < (cat lf m).length) (h1 : (cat lf m).length ≤ 1000000) :
    Calls Try.prog 24 #[.slice (some ⟨g, 0, none⟩) m m] w fun e w' => ∃ v', e = .returned v' ∧ OwnI .i64 3 w.heap.size w'.heap.size w' v' (cat lf m) ∧ Kp 0 0 w w' := by
  have HC := Lib.hid hc
  have HR := Lib.hid hr
  clear hc hr
  have HM : Hid (∀ k, k < m → (cat lf (k + 1)).length = (cat lf k).length + (lf k).length ∧ (cat lf (k + 1)).length ≤ (cat lf m).length) := fun k hk => ⟨by simp [cat], cat_mono lf (by omega)⟩
  have HZ : Hid (cat lf 0 = []) := rfl
  go_enter Try.func24, Try.ntmps24
  go_wp2_with fail
  go_loop [3, 5, 11] (fun t _ i => ∃ k : Nat, k ≤ m ∧ i = .int .i64 k ∧ t = .int .i64 ((cat lf k).length : Nat)) (fun _ _ i => m - (intOf i).toNat)
  case atStart => exact ⟨0, Nat.zero_le _, rfl, by rw [HZ.out]; rfl⟩
  case round =>
    obtain ⟨k, hk, rfl, rfl⟩ := hrel
    by_cases hlt : k < m
    · have c1 := HC.out k hlt
      obtain ⟨ao, c, hv, _, _, _⟩ := (HR.out k hlt).open
      rw [hv] at c1
      clear hv
      have hS := HM.out k hlt
      have hS2 := hS.2
      have HS := Lib.hid hS.1
      clear hS
      have hbd : (cat lf k).length + (lf k).length ≤ (cat lf m).length := by have := HS.out; omega
      go_wp2_with fail
      go_round
      case rel => exact ⟨k + 1, by omega, by go_num, by rw [HS.out]; go_num⟩
      case measure => simp [intOf]; omega
    · obtain rfl : m = k := by omega
      go_wp2_with fail
      refine (growI_any _ _ h0 (by omega)).mono ?_
      rintro e w1 ⟨v1, rfl, hown0, hkp0⟩
      have HO0 := Lib.hid hown0
      clear hown0
      go_wp2_with fail
      go_loopw [6, 8, 27] (fun v' _ i wr => ∃ k : Nat, k ≤ m ∧ i = .int .i64 k ∧ wr.ownsRow w.heap.size 3 1 v' (cat lf k).length ((cat lf k).map (.int .i64)) ∧ Kp 0 0 w wr) (fun _ _ i _ => m - (intOf i).toNat)
      case atStart => exact ⟨0, Nat.zero_le _, rfl, by rw [HZ.out]; exact HO0.out, hkp0⟩
      case round =>
        obtain ⟨k, hk', rfl, hown, hkp⟩ := hrel
        by_cases hlt : k < m
        · have c1 := hkp.cell (HC.out k hlt) (.inr (Nat.zero_le _))
          have hr1 := (HR.out k hlt).keep0 hkp
          have HR1 := Lib.hid hr1
          obtain ⟨ao, c, hv, _, _, _⟩ := hr1.open
          clear hr1
          rw [hv] at c1 HR1
          clear hv
          have hS := HM.out k hlt
          have hS2 := hS.2
          have HS := Lib.hid hS.1
          clear hS
          have hbd : (cat lf k).length + (lf k).length ≤ (cat lf m).length := by have := HS.out; omega
          have hsz := hkp.size
          have HO := Lib.hid hown
          clear hown
          go_wp2_with (at_builtin; refine wpList_app rfl _ _ 24 rfl w.heap.size 3 .i64 8 Try.underlying24 info_int _ _ _ rfl HO.out _ rfl (lf k) HR1.out ?c3 ?c4 ?c5 ?_)
          case c3 => unfold maxLen; omega
          case c4 => omega
          case c5 => exact hsz
          intro v' w2 hown' hg
          have HK := Lib.hid (hkp.grown hg fun j hj => .inl ((HO.out.lt j hj).1))
          have HO' := Lib.hid hown'
          clear hown' hg hkp
          go_wp2_with fail
          go_roundw
          case rel =>
            refine ⟨k + 1, by omega, by go_num, ?_, HK.out⟩
            have ho := HO'.out
            rw [HS.out]
            show World.ownsRow _ _ _ _ _ _ (List.map _ (cat lf k ++ lf k))
            rw [List.map_append]
            exact ho
          case measure => simp [intOf]; omega
        · obtain rfl : m = k := by omega
          go_wp2_with fail
          go_ret
          exact ⟨_, rfl, OwnI.of_row hown, hkp⟩


theorem encs_take {l : List Int} {k : Nat} (h : k < l.length) : Ev.encs (l.take (k + 1)) = Ev.encs (l.take k) ++ Pk.enc (l.getD k 0) := by
  rw [take_snoc_getDI h, Ev.encs_snoc]

theorem encs_take_le {l : List Int} (h : Ev.I64s l) (k : Nat) : (Ev.encs (l.take k)).length ≤ 9 * l.length := by
  have h1 := (Ev.encs_len (l := l.take k) fun x hx => h x (List.mem_of_mem_take hx)).2
  have h2 : (l.take k).length ≤ l.length := by rw [List.length_take]; omega
  omega

theorem nums_cat (e : Evt) : cat (three (Ev.pre e) e.d (Ev.post e)) 3 = Ev.nums e := by
  rw [cat_three, ← List.append_assoc]
  rfl

set_option maxRecDepth 100000 in
set_option maxHeartbeats 4000000 in
theorem eputOk : EPutOk := by
  intro l1 h1 e w dv hd he hl
  have HD := Lib.hid hd
  obtain ⟨ao, c, rfl, hb1, hb2, _⟩ := hd.open
  clear hd
  unfold evV
  by_cases h64 : 64 < e.d.length
  · have HP : Hid (Ev.put e = ([], 3)) := if_pos h64
    go_enter Try.func13, Try.ntmps13
    go_wp2_with fail
    go_returns
    rw [HP.out]
    exact ⟨_, rfl, OwnI.nil _ _ _ _ _, (Kp.refl _ _ _).alloc _⟩
  have HP : Hid (Ev.put e = (Ev.encs (Ev.nums e), 0)) := if_neg h64
  have HF := Lib.hid (i64s_nums he (by omega))
  have HNL : Hid ((Ev.nums e).length = e.d.length + 10) := by
    show _ = _
    simp [Ev.nums, Ev.pre, Ev.post]
  clear he
  have HKA : Hid (Kp 0 0 w (w.alloc (.cells #[Value.int .i64 e.o, .int .i64 e.s, .int .i64 e.l, .slice ao e.d.length c, .int .i64 e.t, .int .i64 e.a, .int .i64 e.f, .int .i64 e.p, .int .i64 e.r, .int .i64 e.k] 26))) := (Kp.refl _ _ _).alloc _
  have HCE : Hid (∀ j v, #[Value.int .i64 e.o, .int .i64 e.s, .int .i64 e.l, .slice ao e.d.length c, .int .i64 e.t, .int .i64 e.a, .int .i64 e.f, .int .i64 e.p, .int .i64 e.r, .int .i64 e.k][j]? = some v → (w.alloc (.cells #[Value.int .i64 e.o, .int .i64 e.s, .int .i64 e.l, .slice ao e.d.length c, .int .i64 e.t, .int .i64 e.a, .int .i64 e.f, .int .i64 e.p, .int .i64 e.r, .int .i64 e.k] 26)).cell? ⟨w.heap.size, j, none⟩ = some v) := fun j v hv => by
    simp only [World.cell?, heap_alloc_new]
    simpa using hv
  go_enter Try.func13, Try.ntmps13
  go_wp2_with fail
  have HCR : Hid (∃ W2 : World, (((w.alloc (.cells #[Value.int .i64 e.o, .int .i64 e.s, .int .i64 e.l, .slice ao e.d.length c, .int .i64 e.t, .int .i64 e.a, .int .i64 e.f, .int .i64 e.p, .int .i64 e.r, .int .i64 e.k] 26)).alloc (.cells #[Value.int .i64 e.o, .int .i64 e.s, .int .i64 e.l, .int .i64 (e.d.length : Int)] 3)).alloc (.cells #[Value.int .i64 e.t, .int .i64 e.a, .int .i64 e.f, .int .i64 e.p, .int .i64 e.r, .int .i64 e.k] 3)).alloc (.cells #[Value.slice (some ⟨w.heap.size + 1, 0, none⟩) 4 4, .slice ao e.d.length c, .slice (some ⟨w.heap.size + 1 + 1, 0, none⟩) 6 6] 24) = W2 ∧ Kp 0 0 w W2 ∧ (∀ j, j < 3 → W2.cell? ⟨w.heap.size + 1 + 1 + 1, j, none⟩ = some (three (Value.slice (some ⟨w.heap.size + 1, 0, none⟩) 4 4) (Value.slice ao e.d.length c) (Value.slice (some ⟨w.heap.size + 1 + 1, 0, none⟩) 6 6) j)) ∧ (∀ j, j < 3 → RdI .i64 0 W2.heap.size W2 (three (Value.slice (some ⟨w.heap.size + 1, 0, none⟩) 4 4) (Value.slice ao e.d.length c) (Value.slice (some ⟨w.heap.size + 1 + 1, 0, none⟩) 6 6) j) (three (Ev.pre e) e.d (Ev.post e) j))) := by
    refine ⟨_, rfl, (((Kp.refl _ _ _).alloc _).alloc _ |>.alloc _).alloc _, ?_, ?_⟩
    · have hs : (((w.alloc (.cells #[Value.int .i64 e.o, .int .i64 e.s, .int .i64 e.l, .slice ao e.d.length c, .int .i64 e.t, .int .i64 e.a, .int .i64 e.f, .int .i64 e.p, .int .i64 e.r, .int .i64 e.k] 26)).alloc (.cells #[Value.int .i64 e.o, .int .i64 e.s, .int .i64 e.l, .int .i64 (e.d.length : Int)] 3)).alloc (.cells #[Value.int .i64 e.t, .int .i64 e.a, .int .i64 e.f, .int .i64 e.p, .int .i64 e.r, .int .i64 e.k] 3)).heap.size = w.heap.size + 1 + 1 + 1 := by simp
      have h := heap_alloc_new (((w.alloc (.cells #[Value.int .i64 e.o, .int .i64 e.s, .int .i64 e.l, .slice ao e.d.length c, .int .i64 e.t, .int .i64 e.a, .int .i64 e.f, .int .i64 e.p, .int .i64 e.r, .int .i64 e.k] 26)).alloc (.cells #[Value.int .i64 e.o, .int .i64 e.s, .int .i64 e.l, .int .i64 (e.d.length : Int)] 3)).alloc (.cells #[Value.int .i64 e.t, .int .i64 e.a, .int .i64 e.f, .int .i64 e.p, .int .i64 e.r, .int .i64 e.k] 3)) (.cells #[Value.slice (some ⟨w.heap.size + 1, 0, none⟩) 4 4, .slice ao e.d.length c, .slice (some ⟨w.heap.size + 1 + 1, 0, none⟩) 6 6] 24)
      rw [hs] at h
      intro j hj
      match j, hj with
      | 0, _ => simp only [World.cell?, h]; rfl
      | 1, _ => simp only [World.cell?, h]; rfl
      | 2, _ => simp only [World.cell?, h]; rfl
    · intro j hj
      match j, hj with
      | 0, _ =>
        have h := lit_rd .i64 3 (w.alloc (.cells #[Value.int .i64 e.o, .int .i64 e.s, .int .i64 e.l, .slice ao e.d.length c, .int .i64 e.t, .int .i64 e.a, .int .i64 e.f, .int .i64 e.p, .int .i64 e.r, .int .i64 e.k] 26)) (Ev.pre e) (by simp [Ev.pre, maxLen])
        have hs : (w.alloc (.cells #[Value.int .i64 e.o, .int .i64 e.s, .int .i64 e.l, .slice ao e.d.length c, .int .i64 e.t, .int .i64 e.a, .int .i64 e.f, .int .i64 e.p, .int .i64 e.r, .int .i64 e.k] 26)).heap.size = w.heap.size + 1 := by simp
        rw [hs] at h
        exact ((h.keep0 (((Kp.refl 0 0 _).alloc _).alloc _)).there).wide (Nat.zero_le _) (Nat.le_refl _)
      | 1, _ => exact ((HD.out.keep0 ((((Kp.refl 0 0 _).alloc _).alloc _ |>.alloc _).alloc _)).there).wide (Nat.zero_le _) (Nat.le_refl _)
      | 2, _ =>
        have h := lit_rd .i64 3 ((w.alloc (.cells #[Value.int .i64 e.o, .int .i64 e.s, .int .i64 e.l, .slice ao e.d.length c, .int .i64 e.t, .int .i64 e.a, .int .i64 e.f, .int .i64 e.p, .int .i64 e.r, .int .i64 e.k] 26)).alloc (.cells #[Value.int .i64 e.o, .int .i64 e.s, .int .i64 e.l, .int .i64 (e.d.length : Int)] 3)) (Ev.post e) (by simp [Ev.post, maxLen])
        have hs : ((w.alloc (.cells #[Value.int .i64 e.o, .int .i64 e.s, .int .i64 e.l, .slice ao e.d.length c, .int .i64 e.t, .int .i64 e.a, .int .i64 e.f, .int .i64 e.p, .int .i64 e.r, .int .i64 e.k] 26)).alloc (.cells #[Value.int .i64 e.o, .int .i64 e.s, .int .i64 e.l, .int .i64 (e.d.length : Int)] 3)).heap.size = w.heap.size + 1 + 1 := by simp
        rw [hs] at h
        exact ((h.keep0 ((Kp.refl 0 0 _).alloc _)).there).wide (Nat.zero_le _) (Nat.le_refl _)
  obtain ⟨W2, hW2, hk2, hc2, hr2⟩ := HCR.out
  rw [hW2]
  have HK2 := Lib.hid hk2
  have HX := Lib.hid (concatI_any (lo := 0) (hi := W2.heap.size) (w.heap.size + 1 + 1 + 1) 3 _ _ W2 (by omega) hc2 hr2 (by rw [nums_cat, HNL.out]; omega) (by rw [nums_cat, HNL.out]; omega))
  rw [nums_cat] at HX
  clear hW2 hk2 hc2 hr2 HCR HKA HCE
  generalize Ev.nums e = ns at *
  refine HX.out.mono ?_
  rintro r w3 ⟨nv, rfl, hown, hk⟩
  have HO := Lib.hid hown
  have HK3 := Lib.hid (HK2.out.trans hk)
  obtain ⟨no, nc, rfl, _, _, hcl⟩ := hown.rd.open
  have HCL := Lib.hid hcl
  clear hown hk hcl HX
  have hn74 : ns.length ≤ 74 := by have := HNL.out; omega
  have HLE := Lib.hid (fun k => encs_take_le HF.out k)
  have hsz3 := HK3.out.size
  go_wp2_with fail
  go_loopw [5, 7, 43] (fun v' _ i wr => ∃ k : Nat, k ≤ ns.length ∧ i = .int .i64 k ∧ wr.ownsRow w3.heap.size 5 1 v' (Ev.encs (ns.take k)).length ((Ev.encs (ns.take k)).map (.int .u8)) ∧ Kp 0 0 w3 wr) (fun _ _ i _ => ns.length - (intOf i).toNat)
  case atStart => exact ⟨0, Nat.zero_le _, rfl, World.ownsRow_nil _ _ _ _, Kp.refl _ _ _⟩
  case round =>
    obtain ⟨k, hk, rfl, hown, hkp⟩ := hrel
    have HOK := Lib.hid hown
    have HKK := Lib.hid hkp
    clear hown hkp
    by_cases hlt : k < ns.length
    · obtain ⟨b1, o1, rfl, _, _, hc1⟩ := HCL.out (by omega)
      have c1 := HKK.out.cell (hc1 k hlt) (.inr (Nat.zero_le _))
      have hx := HF.out (ns.getD k 0) (by simp [List.getD, hlt])
      have HST := Lib.hid (encs_take (l := ns) hlt)
      have hle1 := HLE.out (k + 1)
      rw [HST.out] at hle1
      clear hc1
      generalize ns.getD k 0 = x at c1 hx HST hle1
      rw [List.length_append] at hle1
      go_wp2_with fail
      refine (int_any (lo := 0) (hi := 0) _ [] x wr (RdI.nil _ _ _ _) (by simp) hx.1 hx.2).mono ?_
      rintro r w4 ⟨ev, rfl, hown4, hk4⟩
      have HO4 := Lib.hid hown4
      have HK4 := Lib.hid (HKK.out.trans hk4)
      have HOK4 := Lib.hid ((OwnI.of_row HOK.out).keep0 hk4).1
      have hsz4 := HK4.out.size
      clear hown4 hk4
      go_wp2_with (at_builtin; refine wpList_app rfl _ _ 33 rfl w3.heap.size 5 .u8 1 Try.underlying33 info_u8 _ _ _ rfl HOK4.out _ rfl (Pk.enc x) HO4.out.rd ?c3 ?c4 ?c5 ?_)
      case c3 => unfold maxLen; omega
      case c4 => omega
      case c5 => exact hsz4
      intro v5 w5 hown5 hg5
      have HK5 := Lib.hid (HK4.out.grown hg5 fun j hj => .inl ((HOK4.out.lt j hj).1))
      have HO5 := Lib.hid hown5
      clear hown5 hg5
      go_wp2_with fail
      go_roundw
      case rel =>
        refine ⟨k + 1, by omega, by go_num, ?_, HK5.out⟩
        have ho := HO5.out
        rw [HST.out, List.length_append, List.map_append]
        exact ho
      case measure => simp [intOf]; omega
    · obtain rfl : k = ns.length := by omega
      have HT : Hid (ns.take ns.length = ns) := List.take_length
      go_wp2_with fail
      go_returns
      rw [HP.out]
      have ho := HOK.out
      rw [HT.out] at ho
      exact ⟨_, rfl, (OwnI.of_row ho).wide HK3.out.size (Nat.le_refl _), HK3.out.trans HKK.out⟩

end Go.Proofs.Ytnboeagallkooaa
