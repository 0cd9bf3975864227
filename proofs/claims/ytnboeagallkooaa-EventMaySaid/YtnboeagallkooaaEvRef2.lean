/-
  The document's answer for package event: Put.
-/
import Derived.Test.YtnboeagallkooaaEvRef
namespace Go.Proofs.Ytnboeagallkooaa
open Go.RowKit

theorem i64s_nums {e : Evt} (h : Ev.Fits e) (hd : e.d.length ≤ 1000000) : Ev.I64s (Ev.nums e) := fun x hx => by
  rcases List.mem_append.1 hx with hx | hx
  · rcases List.mem_append.1 hx with hx | hx
    · simp [Ev.pre] at hx
      rcases hx with rfl | rfl | rfl | rfl
      · exact h.o
      · exact h.s
      · exact h.l
      · exact ⟨by omega, by omega⟩
    · exact h.d x hx
  · simp [Ev.post] at hx
    rcases hx with rfl | rfl | rfl | rfl | rfl | rfl
    · exact h.t
    · exact h.a
    · exact h.f
    · exact h.p
    · exact h.r
    · exact h.k

set_option maxRecDepth 100000 in
set_option maxHeartbeats 4000000 in
theorem refPut_any {l1 h1 : Nat} (e : Evt) (w : World) (dv : Value) (hd : RdI .i64 l1 h1 w dv e.d) (he : Ev.Fits e) :
    Calls Try.prog 14 #[evV e dv] w fun r w' => ∃ v, r = .returned (.tuple #[v, .int .i64 (Ev.put e).2]) ∧ OwnI .u8 5 w.heap.size w'.heap.size w' v (Ev.put e).1 ∧ Kp 0 0 w w' := by
  have HD := Lib.hid hd
  obtain ⟨ao, c, rfl, hb1, hb2, _⟩ := hd.open
  clear hd
  unfold evV
  by_cases h64 : 64 < e.d.length
  · have HP : Hid (Ev.put e = ([], 3)) := if_pos h64
    go_enter Try.func14, Try.ntmps14
    go_wp2_with fail
    go_returns
    rw [HP.out]
    exact ⟨_, rfl, OwnI.nil _ _ _ _ _, (Kp.refl _ _ _).alloc _⟩
  have HP : Hid (Ev.put e = (Ev.encs (Ev.nums e), 0)) := if_neg h64
  have HF := Lib.hid (i64s_nums he (by omega))
  clear he
  have HKA : Hid (Kp 0 0 w (w.alloc (.cells #[.int .i64 e.o, .int .i64 e.s, .int .i64 e.l, .slice ao e.d.length c, .int .i64 e.t, .int .i64 e.a, .int .i64 e.f, .int .i64 e.p, .int .i64 e.r, .int .i64 e.k] 26))) := (Kp.refl _ _ _).alloc _
  have hsa : (w.alloc (.cells #[.int .i64 e.o, .int .i64 e.s, .int .i64 e.l, .slice ao e.d.length c, .int .i64 e.t, .int .i64 e.a, .int .i64 e.f, .int .i64 e.p, .int .i64 e.r, .int .i64 e.k] 26)).heap.size = w.heap.size + 1 := by simp
  have HCE : Hid (∀ j v, #[Value.int .i64 e.o, .int .i64 e.s, .int .i64 e.l, .slice ao e.d.length c, .int .i64 e.t, .int .i64 e.a, .int .i64 e.f, .int .i64 e.p, .int .i64 e.r, .int .i64 e.k][j]? = some v → (w.alloc (.cells #[.int .i64 e.o, .int .i64 e.s, .int .i64 e.l, .slice ao e.d.length c, .int .i64 e.t, .int .i64 e.a, .int .i64 e.f, .int .i64 e.p, .int .i64 e.r, .int .i64 e.k] 26)).cell? ⟨w.heap.size, j, none⟩ = some v) := fun j v hv => by
    simp only [World.cell?, heap_alloc_new]
    simpa using hv
  have HO4 : Hid (((w.alloc (.cells #[.int .i64 e.o, .int .i64 e.s, .int .i64 e.l, .slice ao e.d.length c, .int .i64 e.t, .int .i64 e.a, .int .i64 e.f, .int .i64 e.p, .int .i64 e.r, .int .i64 e.k] 26)).alloc (.cells #[.int .i64 e.o, .int .i64 e.s, .int .i64 e.l, .int .i64 (e.d.length : Int)] 3)).ownsRow (w.heap.size + 1) 3 1 (.slice (some ⟨w.heap.size + 1, 0, none⟩) 4 4) 4 [.int .i64 e.o, .int .i64 e.s, .int .i64 e.l, .int .i64 (e.d.length : Int)]) := by
    have h := own_lit (w := w.alloc (.cells #[.int .i64 e.o, .int .i64 e.s, .int .i64 e.l, .slice ao e.d.length c, .int .i64 e.t, .int .i64 e.a, .int .i64 e.f, .int .i64 e.p, .int .i64 e.r, .int .i64 e.k] 26)) (base := (w.alloc (.cells #[.int .i64 e.o, .int .i64 e.s, .int .i64 e.l, .slice ao e.d.length c, .int .i64 e.t, .int .i64 e.a, .int .i64 e.f, .int .i64 e.p, .int .i64 e.r, .int .i64 e.k] 26)).heap.size) (n := 4) #[.int .i64 e.o, .int .i64 e.s, .int .i64 e.l, .int .i64 (e.d.length : Int)] 3 (Nat.le_refl _) rfl (by decide)
    rw [hsa] at h
    exact h
  have HD4 : Hid (RdI .i64 l1 h1 ((w.alloc (.cells #[.int .i64 e.o, .int .i64 e.s, .int .i64 e.l, .slice ao e.d.length c, .int .i64 e.t, .int .i64 e.a, .int .i64 e.f, .int .i64 e.p, .int .i64 e.r, .int .i64 e.k] 26)).alloc (.cells #[.int .i64 e.o, .int .i64 e.s, .int .i64 e.l, .int .i64 (e.d.length : Int)] 3)) (.slice ao e.d.length c) e.d) := (HD.out.keep0 HKA.out).keep0 ((Kp.refl _ _ _).alloc _)
  have HKB : Hid (Kp 0 0 (w.alloc (.cells #[.int .i64 e.o, .int .i64 e.s, .int .i64 e.l, .slice ao e.d.length c, .int .i64 e.t, .int .i64 e.a, .int .i64 e.f, .int .i64 e.p, .int .i64 e.r, .int .i64 e.k] 26)) ((w.alloc (.cells #[.int .i64 e.o, .int .i64 e.s, .int .i64 e.l, .slice ao e.d.length c, .int .i64 e.t, .int .i64 e.a, .int .i64 e.f, .int .i64 e.p, .int .i64 e.r, .int .i64 e.k] 26)).alloc (.cells #[.int .i64 e.o, .int .i64 e.s, .int .i64 e.l, .int .i64 (e.d.length : Int)] 3))) := (Kp.refl _ _ _).alloc _
  have hs4 : w.heap.size + 1 ≤ ((w.alloc (.cells #[.int .i64 e.o, .int .i64 e.s, .int .i64 e.l, .slice ao e.d.length c, .int .i64 e.t, .int .i64 e.a, .int .i64 e.f, .int .i64 e.p, .int .i64 e.r, .int .i64 e.k] 26)).alloc (.cells #[.int .i64 e.o, .int .i64 e.s, .int .i64 e.l, .int .i64 (e.d.length : Int)] 3)).heap.size := by simp
  have HS4 := Lib.hid hs4
  have HSA := Lib.hid hsa
  clear hs4 hsa
  go_enter Try.func14, Try.ntmps14
  go_wp2_with (at_builtin; refine wpList_app rfl _ _ 24 rfl (w.heap.size + 1) 3 .i64 8 Try.underlying24 info_int _ 4 [.int .i64 e.o, .int .i64 e.s, .int .i64 e.l, .int .i64 (e.d.length : Int)] rfl HO4.out _ rfl e.d HD4.out ?c3 ?c4 ?c5 ?_)
  case c3 => unfold maxLen; omega
  case c4 => omega
  case c5 => exact HS4.out
  intro v3 w3 hown hg
  have HK3 : Hid (Kp 0 0 (w.alloc (.cells #[.int .i64 e.o, .int .i64 e.s, .int .i64 e.l, .slice ao e.d.length c, .int .i64 e.t, .int .i64 e.a, .int .i64 e.f, .int .i64 e.p, .int .i64 e.r, .int .i64 e.k] 26)) w3) := HKB.out.grown hg fun j hj => .inl (by rw [HSA.out]; exact (HO4.out.lt j hj).1)
  have HO3 := Lib.hid hown
  generalize w.alloc (.cells #[.int .i64 e.o, .int .i64 e.s, .int .i64 e.l, .slice ao e.d.length c, .int .i64 e.t, .int .i64 e.a, .int .i64 e.f, .int .i64 e.p, .int .i64 e.r, .int .i64 e.k] 26) = wa at *
  clear hown hg HO4 HD4 HKB HS4
  have HSZ := HSA.out
  generalize hpf : w.heap.size = pf at *
  have HPF := Lib.hid hpf
  clear hpf
  have f4 := HK3.out.cell (HCE.out 4 _ rfl) (.inr (Nat.zero_le _))
  have f5 := HK3.out.cell (HCE.out 5 _ rfl) (.inr (Nat.zero_le _))
  have f6 := HK3.out.cell (HCE.out 6 _ rfl) (.inr (Nat.zero_le _))
  have f7 := HK3.out.cell (HCE.out 7 _ rfl) (.inr (Nat.zero_le _))
  have f8 := HK3.out.cell (HCE.out 8 _ rfl) (.inr (Nat.zero_le _))
  have f9 := HK3.out.cell (HCE.out 9 _ rfl) (.inr (Nat.zero_le _))
  have HL6 : Hid (RdI .i64 w3.heap.size (w3.heap.size + 1) (w3.alloc (.cells #[.int .i64 e.t, .int .i64 e.a, .int .i64 e.f, .int .i64 e.p, .int .i64 e.r, .int .i64 e.k] 3)) (.slice (some ⟨w3.heap.size, 0, none⟩) 6 6) (Ev.post e)) := lit_rd .i64 3 w3 (Ev.post e) (by show 6 ≤ maxLen; decide)
  have hs3 : pf + 1 ≤ w3.heap.size := by
    have := HK3.out.size
    omega
  go_wp2_with (at_builtin; refine wpList_app rfl _ _ 24 rfl (pf + 1) 3 .i64 8 Try.underlying24 info_int _ (4 + e.d.length) (.int .i64 e.o :: .int .i64 e.s :: .int .i64 e.l :: .int .i64 (e.d.length : Int) :: e.d.map (.int .i64)) rfl (HO3.out.alloc _) _ rfl (Ev.post e) HL6.out ?c3 ?c4 ?c5 ?_)
  case c3 => show 4 + e.d.length + 6 ≤ maxLen; unfold maxLen; omega
  case c4 => show (4 + e.d.length + 6) * 8 ≤ _; omega
  case c5 => simp; omega
  intro v5 w5 hown hg
  have HK5 : Hid (Kp 0 0 wa w5) := (HK3.out.alloc _).grown hg fun j hj => .inl (by rw [HSA.out]; exact (HO3.out.lt j hj).1)
  have hln : (Ev.nums e).length = 4 + e.d.length + 6 := by simp [Ev.nums, Ev.pre, Ev.post]; omega
  have HO5 : Hid (OwnI .i64 3 (pf + 1) w5.heap.size w5 v5 (Ev.nums e)) := OwnI.of_rowN (n := 4 + e.d.length + 6) (by
    have hm : (Ev.nums e).map (Value.int .i64) = (.int .i64 e.o :: .int .i64 e.s :: .int .i64 e.l :: .int .i64 (e.d.length : Int) :: e.d.map (.int .i64)) ++ (Ev.post e).map (.int .i64) := by simp [Ev.nums, Ev.pre]
    rw [hm]
    exact hown) hln
  have hl80 : (Ev.nums e).length ≤ 80 := by omega
  clear hown hg f4 f5 f6 f7 f8 f9 HL6 HO3 hln
  obtain ⟨o5, c5, rfl, g1, g2, hcl⟩ := HO5.out.rd.open
  have HCL := Lib.hid hcl
  have hsw : w.heap.size ≤ w5.heap.size := (HKA.out.trans HK5.out).size
  clear hcl
  generalize Ev.nums e = L at *
  go_wp2_with fail
  go_loopw [5, 6] (fun v' i wr => ∃ (k : Nat), k ≤ L.length ∧ i = .int .i64 k ∧ OwnI .u8 5 w5.heap.size wr.heap.size wr v' (Ev.encs (L.take k)) ∧ Kp 0 0 w5 wr) (fun _ i _ => L.length - (intOf i).toNat)
  case atStart => exact ⟨0, Nat.zero_le _, rfl, OwnI.nil _ _ _ _ _, Kp.refl _ _ _⟩
  case round =>
    obtain ⟨k, hk, rfl, hown, hkp⟩ := hrel
    have HKP := Lib.hid hkp
    clear hkp
    by_cases hlt : k < L.length
    · have HO := Lib.hid hown
      obtain ⟨o6, c6, rfl, _, _, _⟩ := hown.rd.open
      clear hown
      obtain ⟨b1, o1, rfl, _, _, hc1⟩ := HCL.out (by omega)
      have c1 := HKP.out.cell (hc1 k hlt) (.inr (Nat.zero_le _))
      have HSN : Hid (Ev.encs (L.take (k + 1)) = Ev.encs (L.take k) ++ Pk.enc (L.getD k 0)) := by
        show _ = _
        rw [take_snoc_getDI hlt, Ev.encs_snoc]
      have hx : Ev.I64 (L.getD k 0) := HF.out _ (by simp [List.getD, hlt])
      have hel := (Ev.encs_len (l := L.take k) fun x hx => HF.out x (List.mem_of_mem_take hx)).2
      rw [List.length_take] at hel
      have k0 : (0 : Int) ≤ (k : Int) := Int.natCast_nonneg _
      have k1 : (k : Int) < (L.length : Int) := by omega
      clear hc1
      generalize L.getD k 0 = x at *
      generalize Ev.encs (L.take k) = B at *
      go_wp2_with fail
      refine (refInt_any _ B x wr HO.out.rd (by omega) hx.1 hx.2).mono ?_
      rintro r w6 ⟨v6, rfl, hown, hk6⟩
      have HO6 : Hid (OwnI .u8 5 w5.heap.size w6.heap.size w6 v6 (B ++ Pk.enc x)) := hown.wide HKP.out.size (Nat.le_refl _)
      have HK6 := Lib.hid (HKP.out.trans hk6)
      clear hown hk6
      go_wp2_with fail
      go_roundw
      case rel => exact ⟨k + 1, by omega, by go_num, by rw [HSN.out]; exact HO6.out, HK6.out⟩
      case measure => simp [intOf]; omega
    · obtain rfl : k = L.length := by omega
      rw [List.take_length] at hown
      have HO := Lib.hid hown
      obtain ⟨o6, c6, rfl, _, _, _⟩ := hown.rd.open
      clear hown
      go_wp2_with fail
      go_returns
      rw [HP.out]
      exact ⟨_, rfl, HO.out.wide hsw (Nat.le_refl _), HKA.out.trans (HK5.out.trans HKP.out)⟩

end Go.Proofs.Ytnboeagallkooaa
