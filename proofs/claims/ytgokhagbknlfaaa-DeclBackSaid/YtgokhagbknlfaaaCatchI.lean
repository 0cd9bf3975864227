/-
  The deferred function literals of package pack's attempt: where nothing panics they turn nothing; where the body panics they end the panic, put the reader back and lay the error.
-/
import Derived.Test.YtgokhagbknlfaaaRead2I
namespace Go.Proofs.Ytgokhagbknlfaaa
open Go.RowKit
set_option maxRecDepth 100000

theorem idle_int (a b : Addr) (w : World) :
    CallsD Try.prog 67 #[.pointer (some a), .pointer (some b)] .returning w fun e u' w' => e = .returned (.tuple #[]) ∧ u' = .returning ∧ w = w' := by
  refine callsD_of_wpS Try.func67 rfl fun c₀ cs hu => ?_
  apply wpS_seq
  apply wpS_region
  simp [wpOpsS, go_sem, recoverD, hu, Try.ntmps67, Exit.thenS]
  refine wpS_of_wp ?_
  change Code.wp _ _ _ { tmps := #[.pointer (some a), .pointer (some b), .nilIface, .nilIface, undef, undef, undef, undef, undef, undef, undef, undef, undef, undef, undef], defers := [] } _
  go_wp2
  exact ⟨rfl, .returning, by cases c₀; simp_all, .tuple #[], by simp [results, Try.results67], rfl, rfl, rfl⟩

theorem catch_int {p lo s b : Nat} (er : Int) (l l' : List Int) (v : Value) (older : List PanicEntry) (w : World) (h : Rdr p lo w l' 0) (hs : w.cell? ⟨s, 0, none⟩ = some v) (hb : w.cell? ⟨b, 0, none⟩ = some (.pointer (some ⟨p, 0, none⟩))) (hv : RdI .u8 lo p w v l) :
    CallsD Try.prog 67 #[.pointer (some ⟨s, 0, none⟩), .pointer (some ⟨b, 0, none⟩)] (.panicking ({ v := pnc er, recovered := false } :: older)) w fun e u' w' =>
      e = .returned (.tuple #[]) ∧ u' = .panicking ({ v := pnc er, recovered := true } :: older) ∧ Rdr p lo w' l er ∧ Kp p (p + 1) w w' := by
  refine callsD_of_wpS Try.func67 rfl fun c₀ cs hu => ?_
  apply wpS_seq
  apply wpS_region
  simp [wpOpsS, go_sem, recoverD, hu, Try.ntmps67, Exit.thenS]
  refine wpS_of_wp ?_
  change Code.wp _ _ _ { tmps := #[.pointer (some ⟨s, 0, none⟩), .pointer (some ⟨b, 0, none⟩), .iface 30 (.int .i64 er), .iface 30 (.int .i64 er), undef, undef, undef, undef, undef, undef, undef, undef, undef, undef, undef], defers := [] } _
  obtain ⟨v0, hh, hr⟩ := h
  obtain ⟨ao0, k0, rfl, _, _, _⟩ := hr.open
  obtain ⟨ao1, k1, rfl, _, _, _⟩ := hv.open
  obtain ⟨c0, c1, f0, f1⟩ := cell_two hh
  have HH := Lib.hid hh
  have HV := Lib.hid hv
  clear hh hv hr
  have hta : ∀ W, (Instr.typeAssert (.iface 30 (.int .i64 er)) 20 30 false).run Try.prog W = .ok (.int .i64 er) W := fun W => by kernel_rfl
  go_wp2
  go_region
  refine ⟨rfl, .panicking ({ v := pnc er, recovered := true } :: older), by cases c₀; simp_all [pnc], .tuple #[], by simp [results, Try.results67], rfl, rfl, ⟨_, set_two1 (set_two0 HH.out _) _, ?_⟩, ?_⟩
  · exact HV.out.keep (lo' := p) (hi' := p + 1) ((((Kp.refl p (p + 1) w).setCell (.inr ⟨Nat.le_refl _, Nat.lt_succ_self _⟩) _).setCell (.inr ⟨Nat.le_refl _, Nat.lt_succ_self _⟩) _).drew) fun b _ h2 => by omega
  · exact (((Kp.refl p (p + 1) w).setCell (.inr ⟨Nat.le_refl _, Nat.lt_succ_self _⟩) _).setCell (.inr ⟨Nat.le_refl _, Nat.lt_succ_self _⟩) _).drew

theorem makeF (fn : Fn) (first cap : Array Value) (w : World) : (Instr.makeFunc fn first cap).run Try.prog w = .ok (.func fn first cap) w := rfl

/-- attempt of the reader's own number: behind an error nothing is read. -/
theorem attempt_done {p lo : Nat} (F : Value) (l : List Int) (er : Int) (w : World) (h : Rdr p lo w l er) (he : er ≠ 0) :
    Calls Try.prog 58 #[.pointer (some ⟨p, 0, none⟩), F] w fun e w' => e = .returned (.int .i64 0) ∧ Kp 0 0 w w' := by
  obtain ⟨v, hh, hr⟩ := h
  obtain ⟨ao, c, rfl, hlc, hc63, _⟩ := hr.open
  obtain ⟨c0, c1, f0, f1⟩ := cell_two hh
  have hne : (er != 0) = true := by simpa using he
  have hp := heap_lt hh
  clear hr hh
  go_enter_defers Try.func58, Try.ntmps58
  go_wp2
  exact ⟨_, results_tmp rfl _ _ _, rfl, (Kp.refl _ _ _).alloc _⟩

/-- What a read method comes to, of what the reading inside comes to. -/
def Reads (p lo : Nat) (w : World) (l : List Int) (r : Int × Nat × Int) (e : Ending) (w' : World) : Prop :=
  e = .returned (.int .i64 (if r.2.2 = 0 then r.1 else 0)) ∧ Rdr p lo w' (if r.2.2 = 0 then l.drop r.2.1 else l) r.2.2 ∧ Kp p (p + 1) w w'

set_option maxHeartbeats 400000 in
/-- attempt of the reader's own number. -/
theorem attempt_num {p lo : Nat} (l : List Int) (w : World) (h : Rdr p lo w l 0) (hb : ∀ y ∈ l, 0 ≤ y ∧ y < 256) :
    Calls Try.prog 58 #[.pointer (some ⟨p, 0, none⟩), .func (.func 63) #[.pointer (some ⟨p, 0, none⟩)] #[]] w (Reads p lo w l (Pk.num l)) := by
  have HA : Hid (∀ w1, Rdr p lo w1 l 0 → Calls Try.prog 63 #[.pointer (some ⟨p, 0, none⟩)] w1 (Got (.int .i64) p lo w1 l (Pk.num l))) := fun w1 h1 => num_any l w1 h1 hb
  have H := Lib.hid h
  generalize Pk.num l = r at HA ⊢
  obtain ⟨n, k, er⟩ := r
  obtain ⟨v, hh, hr⟩ := h
  obtain ⟨ao, c, rfl, hlc, hc63, _⟩ := hr.open
  obtain ⟨c0, c1, f0, f1⟩ := cell_two hh
  have hp := heap_lt hh
  have hmf := makeF
  have HV := Lib.hid hr
  clear hr hh hb
  go_enter_defers Try.func58, Try.ntmps58
  go_wp2_with fail
  have hk0 : Kp 0 0 w ((w.alloc (.cells #[.pointer (some ⟨p, 0, none⟩)] 60)).alloc (.cells #[.slice ao l.length c] 26)) := ((Kp.refl 0 0 w).alloc _).alloc _
  have hs0 : ((w.alloc (.cells #[.pointer (some ⟨p, 0, none⟩)] 60)).alloc (.cells #[.slice ao l.length c] 26)).cell? ⟨w.heap.size + 1, 0, none⟩ = some (.slice ao l.length c) := by simp [go_sem]
  have hb0 : ((w.alloc (.cells #[.pointer (some ⟨p, 0, none⟩)] 60)).alloc (.cells #[.slice ao l.length c] 26)).cell? ⟨w.heap.size, 0, none⟩ = some (.pointer (some ⟨p, 0, none⟩)) := by simp [go_sem]
  refine (HA.out _ (H.out.keep0 hk0)).mono ?_
  rintro e w1 ⟨hk, ⟨h0, rfl, hr⟩ | ⟨h0, rfl, l', hr⟩⟩
  · have HK := Lib.hid ((hk0.any (lo := p) (hi := p + 1)).trans hk)
    have HR := Lib.hid hr
    have H0 : Hid (er = 0) := h0
    clear hk hr h0 hk0 hs0 hb0
    go_wp2_with fail
    refine leaves_cons (f := 67) (args := #[.pointer (some ⟨w.heap.size + 1, 0, none⟩), .pointer (some ⟨w.heap.size, 0, none⟩)]) (by simp) (by simp [go_sem]) ?_
    refine (idle_int _ _ _).mono ?_
    rintro e u' w'' ⟨rfl, rfl, rfl⟩
    have HX : Hid (Reads p lo w l (n, k, er) (.returned (.int .i64 n)) w1) := by
      have e0 := H0.out
      subst e0
      exact ⟨rfl, HR.out, HK.out⟩
    simp [Leaves, settle, results, Try.results58, go_sem]
    exact HX.out
  · have hs1 := hk.cell hs0 (by omega)
    have hb1 := hk.cell hb0 (by omega)
    have HV1 := Lib.hid ((HV.out.keep0 hk0).keep hk fun b _ h2 => by omega)
    have HK := Lib.hid ((hk0.any (lo := p) (hi := p + 1)).trans hk)
    have HR := Lib.hid hr
    have H0 : Hid (er ≠ 0) := h0
    clear hk hr h0 hk0 hs0 hb0
    go_wp2_with fail
    refine leaves_cons (f := 67) (args := #[.pointer (some ⟨w.heap.size + 1, 0, none⟩), .pointer (some ⟨w.heap.size, 0, none⟩)]) (by simp) (by simp [go_sem]) ?_
    refine (catch_int er l l' _ [] _ HR.out hs1 hb1 HV1.out).mono ?_
    rintro e u' w'' ⟨rfl, rfl, hr2, hk2⟩
    have HX : Hid (Reads p lo w l (n, k, er) (.returned (.int .i64 0)) w'') := by
      have e0 := H0.out
      refine ⟨by rw [if_neg e0], by rw [if_neg e0]; exact hr2, HK.out.trans hk2⟩
    clear hr2 hk2
    simp [Leaves, settle, results, Try.results58, go_sem]
    exact HX.out

set_option maxHeartbeats 400000 in
/-- attempt of Count's function literal. -/
theorem attempt_lit {p lo b1 b2 : Nat} (l : List Int) (r : Int × Nat × Int) (w : World) (h : Rdr p lo w l 0) (ha : ∀ w1, Kp 0 0 w w1 → Calls Try.prog 59 #[.pointer (some ⟨b1, 0, none⟩), .pointer (some ⟨b2, 0, none⟩)] w1 (Got (.int .i64) p lo w1 l r)) :
    Calls Try.prog 58 #[.pointer (some ⟨p, 0, none⟩), .func (.func 59) #[] #[.pointer (some ⟨b1, 0, none⟩), .pointer (some ⟨b2, 0, none⟩)]] w (Reads p lo w l r) := by
  have HA := Lib.hid ha
  clear ha
  obtain ⟨n, k, er⟩ := r
  obtain ⟨v, hh, hr⟩ := h
  obtain ⟨ao, c, rfl, hlc, hc63, _⟩ := hr.open
  obtain ⟨c0, c1, f0, f1⟩ := cell_two hh
  have hp := heap_lt hh
  have hmf := makeF
  have HV := Lib.hid hr
  clear hr hh
  go_enter_defers Try.func58, Try.ntmps58
  go_wp2_with fail
  have hk0 : Kp 0 0 w ((w.alloc (.cells #[.pointer (some ⟨p, 0, none⟩)] 60)).alloc (.cells #[.slice ao l.length c] 26)) := ((Kp.refl 0 0 w).alloc _).alloc _
  have hs0 : ((w.alloc (.cells #[.pointer (some ⟨p, 0, none⟩)] 60)).alloc (.cells #[.slice ao l.length c] 26)).cell? ⟨w.heap.size + 1, 0, none⟩ = some (.slice ao l.length c) := by simp [go_sem]
  have hb0 : ((w.alloc (.cells #[.pointer (some ⟨p, 0, none⟩)] 60)).alloc (.cells #[.slice ao l.length c] 26)).cell? ⟨w.heap.size, 0, none⟩ = some (.pointer (some ⟨p, 0, none⟩)) := by simp [go_sem]
  refine (HA.out _ hk0).mono ?_
  rintro e w1 ⟨hk, ⟨h0, rfl, hr⟩ | ⟨h0, rfl, l', hr⟩⟩
  · have HK := Lib.hid ((hk0.any (lo := p) (hi := p + 1)).trans hk)
    have HR := Lib.hid hr
    have H0 : Hid (er = 0) := h0
    clear hk hr h0 hk0 hs0 hb0
    go_wp2_with fail
    refine leaves_cons (f := 67) (args := #[.pointer (some ⟨w.heap.size + 1, 0, none⟩), .pointer (some ⟨w.heap.size, 0, none⟩)]) (by simp) (by simp [go_sem]) ?_
    refine (idle_int _ _ _).mono ?_
    rintro e u' w'' ⟨rfl, rfl, rfl⟩
    have HX : Hid (Reads p lo w l (n, k, er) (.returned (.int .i64 n)) w1) := by
      have e0 := H0.out
      subst e0
      exact ⟨rfl, HR.out, HK.out⟩
    simp [Leaves, settle, results, Try.results58, go_sem]
    exact HX.out
  · have hs1 := hk.cell hs0 (by omega)
    have hb1 := hk.cell hb0 (by omega)
    have HV1 := Lib.hid ((HV.out.keep0 hk0).keep hk fun b _ h2 => by omega)
    have HK := Lib.hid ((hk0.any (lo := p) (hi := p + 1)).trans hk)
    have HR := Lib.hid hr
    have H0 : Hid (er ≠ 0) := h0
    clear hk hr h0 hk0 hs0 hb0
    go_wp2_with fail
    refine leaves_cons (f := 67) (args := #[.pointer (some ⟨w.heap.size + 1, 0, none⟩), .pointer (some ⟨w.heap.size, 0, none⟩)]) (by simp) (by simp [go_sem]) ?_
    refine (catch_int er l l' _ [] _ HR.out hs1 hb1 HV1.out).mono ?_
    rintro e u' w'' ⟨rfl, rfl, hr2, hk2⟩
    have HX : Hid (Reads p lo w l (n, k, er) (.returned (.int .i64 0)) w'') := by
      have e0 := H0.out
      refine ⟨by rw [if_neg e0], by rw [if_neg e0]; exact hr2, HK.out.trans hk2⟩
    clear hr2 hk2
    simp [Leaves, settle, results, Try.results58, go_sem]
    exact HX.out

end Go.Proofs.Ytgokhagbknlfaaa
