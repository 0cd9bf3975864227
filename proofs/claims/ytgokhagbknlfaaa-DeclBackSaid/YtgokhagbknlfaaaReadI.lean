/-
  The contracts of package pack's Reader: From, Int, Count, Blob, Done.
-/
import Derived.Test.YtgokhagbknlfaaaCodeI
import Derived.Recover
import Derived.Defers
namespace Go.Proofs.Ytgokhagbknlfaaa
open Go.RowKit
set_option maxRecDepth 100000

theorem clone_any {lo hi : Nat} (v : Value) (l : List Int) (w : World) (h : RdI .u8 lo hi w v l) (hl : l.length ≤ 140737488355328) :
    Calls Try.prog 45 #[v] w fun e w' => ∃ v', e = .returned v' ∧ OwnI .u8 5 w.heap.size w'.heap.size w' v' l ∧ Kp 0 0 w w' := by
  obtain ⟨h1, ao, c, rfl, h2, h3, hn0, h4⟩ := h
  cases ao with
  | none =>
    have hc : c = 0 := hn0 rfl
    have hl0 : l = [] := List.eq_nil_of_length_eq_zero (by omega)
    subst hl0
    refine (clone_nil _ c w).mono ?_
    rintro e w' ⟨rfl, rfl⟩
    exact ⟨_, rfl, OwnI.nil _ _ _ _ _, Kp.refl _ _ _⟩
  | some ad =>
    refine (clone_at ad l.length c l w rfl hl fun i hi' => ?_).mono ?_
    · obtain ⟨b, off, he, _, _, hcell⟩ := h4 i (.int .u8 (l.getD i 0)) (by simp [hi'])
      obtain rfl := Option.some.inj he
      rw [Addr.add_lit]
      exact hcell
    · rintro e w' ⟨v', rfl, hown, _, hb⟩
      exact ⟨v', rfl, OwnI.of_row hown, Kp.of_below hb⟩

/-- A reader in block p: what is left to be read, and its error; the bytes lie in blocks from lo on, below p. -/
def Rdr (p lo : Nat) (w : World) (l : List Int) (e : Int) : Prop :=
  ∃ v, w.heap[p]? = some (.cells #[v, .int .i64 e] 84 (0, 0)) ∧ RdI .u8 lo p w v l

theorem Rdr.keep {p lo lo' hi' : Nat} {w w' : World} {l : List Int} {e : Int} (h : Rdr p lo w l e) (hk : Kp lo' hi' w w') (hd : ∀ b, lo ≤ b → b ≤ p → b < lo' ∨ hi' ≤ b) (hlp : lo ≤ p) : Rdr p lo w' l e := by
  obtain ⟨v, h1, h2⟩ := h
  exact ⟨v, hk.heap h1 (hd p hlp (Nat.le_refl _)), h2.keep hk fun b hb1 hb2 => hd b hb1 (by omega)⟩

theorem Rdr.keep0 {p lo : Nat} {w w' : World} {l : List Int} {e : Int} (h : Rdr p lo w l e) (hk : Kp 0 0 w w') : Rdr p lo w' l e := by
  obtain ⟨v, h1, h2⟩ := h
  exact ⟨v, hk.heap h1 (.inr (Nat.zero_le _)), h2.keep0 hk⟩

theorem Rdr.lt {p lo : Nat} {w : World} {l : List Int} {e : Int} (h : Rdr p lo w l e) : p < w.heap.size := by
  obtain ⟨v, h1, _⟩ := h
  exact heap_lt h1

theorem cell_two {w : World} {p : Nat} {a b : Value} {T : TypeId} (h : w.heap[p]? = some (.cells #[a, b] T (0, 0))) :
    w.cell? ⟨p, 0, none⟩ = some a ∧ w.cell? ⟨p, 1, none⟩ = some b ∧ w.frozen? ⟨p, 0, none⟩ = false ∧ w.frozen? ⟨p, 1, none⟩ = false := by
  simp [World.cell?, World.frozen?, h]

theorem set_two0 {w : World} {p : Nat} {a b : Value} {T : TypeId} (h : w.heap[p]? = some (.cells #[a, b] T (0, 0))) (u : Value) : (w.setCell ⟨p, 0, none⟩ u).heap[p]? = some (.cells #[u, b] T (0, 0)) := by
  simp [World.setCell, Array.getElem?_modify, h]

theorem set_two1 {w : World} {p : Nat} {a b : Value} {T : TypeId} (h : w.heap[p]? = some (.cells #[a, b] T (0, 0))) (u : Value) : (w.setCell ⟨p, 1, none⟩ u).heap[p]? = some (.cells #[a, u] T (0, 0)) := by
  simp [World.setCell, Array.getElem?_modify, h]

theorem from_any {lo hi : Nat} (v : Value) (l : List Int) (w : World) (h : RdI .u8 lo hi w v l) (hl : l.length ≤ 140737488355328) :
    Calls Try.prog 27 #[v] w fun e w' => ∃ p, e = .returned (.pointer (some ⟨p, 0, none⟩)) ∧ w.heap.size ≤ p ∧ Rdr p w.heap.size w' l 0 ∧ Kp 0 0 w w' := by
  go_enter Try.func27, Try.ntmps27
  go_wp2_with fail
  refine (clone_any v l w h hl).mono ?_
  rintro e w1 ⟨v1, rfl, hown, hkp⟩
  obtain ⟨ao1, c1, rfl, _, _, _⟩ := hown.rd.open
  have HK := Lib.hid hkp
  have HO := Lib.hid hown
  clear hown hkp
  go_wp2_with fail
  go_ret
  refine ⟨w1.heap.size, rfl, HK.out.size, ⟨_, heap_alloc_new _ _, ?_⟩, HK.out.alloc _⟩
  exact HO.out.rd.keep0 ((Kp.refl 0 0 w1).alloc _)

/-- What a panic of the package's own bears: the error. -/
def pnc (e : Int) : Value := .iface 30 (.int .i64 e)

/-- s[:n] and s[n:] of a slice of integers. -/
theorem take_ok {p lo : Nat} {l : List Int} (n : Nat) (w : World) (h : Rdr p lo w l 0) (hn : n ≤ l.length) :
    Calls Try.prog 68 #[.pointer (some ⟨p, 0, none⟩), .int .i64 (n : Int)] w fun e w' => ∃ v, e = .returned v ∧ RdI .u8 lo p w' v (l.take n) ∧ Rdr p lo w' (l.drop n) 0 ∧ Kp p (p + 1) w w' := by
  obtain ⟨v, hh, hr⟩ := h
  obtain ⟨ao, c, rfl, hlc, hc63, _⟩ := hr.open
  obtain ⟨c0, c1, f0, f1⟩ := cell_two hh
  have HR := Lib.hid hr
  have HH := Lib.hid hh
  clear hr hh
  have KK : ∀ u, Kp p (p + 1) w (w.setCell ⟨p, 0, none⟩ u) := fun u => (Kp.refl p (p + 1) w).setCell (.inr ⟨Nat.le_refl _, Nat.lt_succ_self _⟩) u
  go_enter Try.func68, Try.ntmps68
  go_wp2_with fail
  all_goals go_ret
  · obtain rfl : c = n := by assumption
    refine ⟨_, rfl, ?_, ⟨_, set_two0 HH.out _, RdI.end (by omega)⟩, KK _⟩
    exact (HR.out.pre hn).keep (KK _) fun b _ h2 => by omega
  · refine ⟨_, rfl, ?_, ⟨_, set_two0 HH.out _, (HR.out.suf hn).keep (KK _) fun b _ h2 => by omega⟩, KK _⟩
    exact (HR.out.pre hn).keep (KK _) fun b _ h2 => by omega

theorem take_short {p lo : Nat} {l : List Int} (n : Int) (w : World) (h : Rdr p lo w l 0) (hn : (l.length : Int) < n) :
    Calls Try.prog 68 #[.pointer (some ⟨p, 0, none⟩), .int .i64 n] w fun e w' => e = .panicked [{ v := pnc 4, recovered := false }] ∧ w = w' := by
  obtain ⟨v, hh, hr⟩ := h
  obtain ⟨ao, c, rfl, hlc, hc63, _⟩ := hr.open
  obtain ⟨c0, c1, f0, f1⟩ := cell_two hh
  clear hr hh
  go_enter Try.func68, Try.ntmps68
  go_wp2
  exact ⟨rfl, rfl, rfl⟩

/-- magnitude: the bytes' value; it panics where the first one is 00. -/
theorem mag_ok {lo hi : Nat} (v : Value) (l : List Int) (w : World) (h : RdI .u8 lo hi w v l) (hb : ∀ x ∈ l, 0 ≤ x ∧ x < 256) (h8 : l.length ≤ 8) (hh : l.head? ≠ some 0) :
    Calls Try.prog 69 #[v] w fun e w' => e = .returned (.int .u64 (Pk.val l)) ∧ Kp 0 0 w w' := by
  obtain ⟨ao, c, rfl, hlc, hc63, hcl⟩ := h.open
  have HV : Hid (∀ k, k < l.length → Pk.val (l.take (k + 1)) = Pk.val (l.take k) * 256 + (l.getD k 0).toNat) := fun k hk => by rw [take_snoc_getD hk, Pk.val_snoc]
  have HB : Hid (∀ k, k < l.length → 0 ≤ l.getD k 0 ∧ l.getD k 0 < 256) := fun k hk => by
    have := hb l[k] (List.getElem_mem hk)
    simpa [List.getD, hk] using this
  have HVL : Hid (∀ k, k < l.length → Pk.val (l.take k) < 256 ^ 7) := fun k hk => by
    have h1 := Pk.val_lt (l := l.take k) fun x hx => hb x (List.mem_of_mem_take hx)
    have h2 : (l.take k).length = k := by rw [List.length_take]; omega
    rw [h2] at h1
    exact Nat.lt_of_lt_of_le h1 (Nat.pow_le_pow_right (by omega) (by omega))
  have hnz : l.length = 0 ∨ (0 < l.length ∧ l.getD 0 0 ≠ 0) := by
    cases l with
    | nil => exact .inl rfl
    | cons x l => exact .inr ⟨by simp, by simpa using hh⟩
  clear hb hh hlc h
  go_enter Try.func69, Try.ntmps69
  rcases hnz with hz | ⟨hpos, hnz⟩
  · have hl : l = [] := List.eq_nil_of_length_eq_zero hz
    subst hl
    go_wp2_with fail
    refine wp_loop_rounds 1 ?_
    rw [rounds_succ]
    go_wp2
    go_ret
    exact ⟨rfl, Kp.refl _ _ _⟩
  · obtain ⟨b1, o1, rfl, _, _, hc1⟩ := hcl hpos
    have c1 : w.cell? ⟨b1, o1, none⟩ = some (.int .u8 (l.getD 0 0)) := hc1 0 hpos
    have HC := Lib.hid hc1
    clear hc1 hcl
    have hx0 := (HB.out 0 hpos).1
    generalize l.getD 0 0 = x at c1 hnz hx0
    have hnz' : (x == 0) = false := by simpa using hnz
    go_wp2_with fail
    go_loop [3, 5, 18] (fun t _ i => ∃ k : Nat, k ≤ l.length ∧ i = .int .i64 k ∧ t = .int .u64 (Pk.val (l.take k) : Nat)) (fun _ _ i => l.length - (intOf i).toNat)
    case atStart => exact ⟨0, Nat.zero_le _, rfl, rfl⟩
    case round =>
      obtain ⟨k, hk, rfl, rfl⟩ := hrel
      by_cases hlt : k < l.length
      · have c1 := HC.out k hlt
        have HS := Lib.hid (HV.out k hlt)
        have hy := HB.out k hlt
        have hv := HVL.out k hlt
        generalize l.getD k 0 = y at c1 HS hy
        generalize Pk.val (l.take k) = u at HS hv
        go_wp2_with fail
        rw [shl8_or u y hv hy]
        go_round
        case rel => exact ⟨k + 1, by omega, by go_num, by rw [HS.out]⟩
        case measure => simp [intOf]; omega
      · obtain rfl : l.length = k := by omega
        go_wp2_with fail
        go_ret
        exact ⟨rfl, Kp.refl _ _ _⟩

theorem mag_bad {lo hi : Nat} (v : Value) (l : List Int) (w : World) (h : RdI .u8 lo hi w v l) (hh : l.head? = some 0) :
    Calls Try.prog 69 #[v] w fun e w' => e = .panicked [{ v := pnc 5, recovered := false }] ∧ w = w' := by
  obtain ⟨ao, c, rfl, hlc, hc63, hcl⟩ := h.open
  have hpos : 0 < l.length := by
    cases l with
    | nil => cases hh
    | cons x l => simp
  have h0 : l.getD 0 0 = 0 := by
    cases l with
    | nil => rfl
    | cons x l => simpa using hh
  obtain ⟨b1, o1, rfl, _, _, hc1⟩ := hcl hpos
  have c1 : w.cell? ⟨b1, o1, none⟩ = some (.int .u8 (l.getD 0 0)) := hc1 0 hpos
  rw [h0] at c1
  clear hh h0 hc1 hcl h
  go_enter Try.func69, Try.ntmps69
  go_wp2
  exact ⟨rfl, rfl, rfl⟩

/-- What a reading inside the package comes to: a value, or a panic that bears the error. -/
def Got (V : Int → Value) (p lo : Nat) (w : World) (l : List Int) (r : Int × Nat × Int) (e : Ending) (w' : World) : Prop :=
  Kp p (p + 1) w w' ∧ ((r.2.2 = 0 ∧ e = .returned (V r.1) ∧ Rdr p lo w' (l.drop r.2.1) 0) ∨
    (r.2.2 ≠ 0 ∧ e = .panicked [{ v := pnc r.2.2, recovered := false }] ∧ ∃ l', Rdr p lo w' l' 0))

theorem num_nil {p lo : Nat} (w : World) (h : Rdr p lo w [] 0) :
    Calls Try.prog 63 #[.pointer (some ⟨p, 0, none⟩)] w fun e w' => e = .panicked [{ v := pnc 4, recovered := false }] ∧ w = w' := by
  go_enter Try.func63, Try.ntmps63
  go_wp2_with fail
  refine (take_short 1 _ h (by decide)).mono ?_
  rintro e w' ⟨rfl, rfl⟩
  go_wp2_with fail
  exact ⟨rfl, rfl, rfl⟩

/-- Behind the head byte: what the head says. -/
theorem num_long {p lo : Nat} (x : Int) (t : List Int) (w : World) (h : Rdr p lo w (x :: t) 0) (hx : 0 ≤ x ∧ x < 256) (hs : (16 < x ∧ 8 < x - 16) ∨ (x ≤ 16 ∧ 8 < x)) :
    Calls Try.prog 63 #[.pointer (some ⟨p, 0, none⟩)] w fun e w' => e = .panicked [{ v := pnc 5, recovered := false }] ∧ Rdr p lo w' t 0 ∧ Kp p (p + 1) w w' := by
  go_enter Try.func63, Try.ntmps63
  go_wp2_with fail
  refine (take_ok 1 _ h (by simp)).mono ?_
  rintro e w1 ⟨v1, rfl, hr1, hr2, hk⟩
  obtain ⟨ao, c, rfl, _, _, hcl⟩ := hr1.open
  obtain ⟨b1, o1, rfl, _, _, hc1⟩ := hcl (by simp)
  have c1 : w1.cell? ⟨b1, o1, none⟩ = some (.int .u8 x) := hc1 0 (by simp)
  have HK := Lib.hid hk
  have HR := Lib.hid hr2
  clear hr1 hr2 hk hc1 hcl
  rcases hs with ⟨h1, h2⟩ | ⟨h1, h2⟩
  · go_wp2_with fail
    exact ⟨rfl, rfl, HR.out, HK.out⟩
  · go_wp2_with fail
    exact ⟨rfl, rfl, HR.out, HK.out⟩

theorem num_short {p lo : Nat} (x : Int) (t : List Int) (w : World) (h : Rdr p lo w (x :: t) 0) (hx : 0 ≤ x ∧ x < 256) (hs : (16 < x ∧ x - 16 ≤ 8 ∧ (t.length : Int) < x - 16) ∨ (x ≤ 16 ∧ x ≤ 8 ∧ (t.length : Int) < x)) :
    Calls Try.prog 63 #[.pointer (some ⟨p, 0, none⟩)] w fun e w' => e = .panicked [{ v := pnc 4, recovered := false }] ∧ Rdr p lo w' t 0 ∧ Kp p (p + 1) w w' := by
  go_enter Try.func63, Try.ntmps63
  go_wp2_with fail
  refine (take_ok 1 _ h (by simp)).mono ?_
  rintro e w1 ⟨v1, rfl, hr1, hr2, hk⟩
  obtain ⟨ao, c, rfl, _, _, hcl⟩ := hr1.open
  obtain ⟨b1, o1, rfl, _, _, hc1⟩ := hcl (by simp)
  have c1 : w1.cell? ⟨b1, o1, none⟩ = some (.int .u8 x) := hc1 0 (by simp)
  have HK := Lib.hid hk
  have HR := Lib.hid hr2
  clear hr1 hr2 hk hc1 hcl
  rcases hs with ⟨h1, h2, h3⟩ | ⟨h1, h2, h3⟩
  · go_wp2_with fail
    refine (take_short _ _ HR.out (by simpa using h3)).mono ?_
    rintro e w' ⟨rfl, rfl⟩
    go_wp2_with fail
    exact ⟨rfl, rfl, HR.out, HK.out⟩
  · go_wp2_with fail
    refine (take_short _ _ HR.out (by simpa using h3)).mono ?_
    rintro e w' ⟨rfl, rfl⟩
    go_wp2_with fail
    exact ⟨rfl, rfl, HR.out, HK.out⟩

/-- The bytes behind the head begin with 00. -/
theorem num_zero {p lo : Nat} (x : Int) (n : Nat) (t : List Int) (w : World) (h : Rdr p lo w (x :: t) 0) (hx : 0 ≤ x ∧ x < 256) (hs : (16 < x ∧ x = (n : Int) + 16) ∨ (x ≤ 16 ∧ x = (n : Int))) (h8 : n ≤ 8) (ht : n ≤ t.length) (hz : (t.take n).head? = some 0) :
    Calls Try.prog 63 #[.pointer (some ⟨p, 0, none⟩)] w fun e w' => e = .panicked [{ v := pnc 5, recovered := false }] ∧ (∃ l', Rdr p lo w' l' 0) ∧ Kp p (p + 1) w w' := by
  have HZ := Lib.hid hz
  clear hz
  go_enter Try.func63, Try.ntmps63
  go_wp2_with fail
  refine (take_ok 1 _ h (by simp)).mono ?_
  rintro e w1 ⟨v1, rfl, hr1, hr2, hk⟩
  obtain ⟨ao, c, rfl, _, _, hcl⟩ := hr1.open
  obtain ⟨b1, o1, rfl, _, _, hc1⟩ := hcl (by simp)
  have c1 : w1.cell? ⟨b1, o1, none⟩ = some (.int .u8 x) := hc1 0 (by simp)
  have HK := Lib.hid hk
  have HR : Hid (Rdr p lo w1 t 0) := hr2
  clear hr1 hr2 hk hc1 hcl
  rcases hs with ⟨h1, rfl⟩ | ⟨h1, rfl⟩
  all_goals
    go_wp2_with fail
    refine (take_ok n _ HR.out ht).mono ?_
    rintro e w2 ⟨v2, rfl, hr1, hr2, hk⟩
    have HK2 := Lib.hid (HK.out.trans hk)
    have HR2 := Lib.hid hr2
    have HV := Lib.hid hr1
    clear hr1 hr2 hk
    go_wp2_with fail
    refine (mag_bad _ _ _ HV.out HZ.out).mono ?_
    rintro e w' ⟨rfl, rfl⟩
    go_wp2_with fail
    exact ⟨rfl, rfl, ⟨_, HR2.out⟩, HK2.out⟩

theorem num_over {p lo : Nat} (x : Int) (n : Nat) (t : List Int) (w : World) (h : Rdr p lo w (x :: t) 0) (hx : 0 ≤ x ∧ x < 256) (hs : (16 < x ∧ x = (n : Int) + 16 ∧ 9223372036854775808 < (Pk.val (t.take n) : Int)) ∨ (x ≤ 16 ∧ x = (n : Int) ∧ 9223372036854775807 < (Pk.val (t.take n) : Int)))
    (h8 : n ≤ 8) (ht : n ≤ t.length) (hz : (t.take n).head? ≠ some 0) (hb : ∀ y ∈ t, 0 ≤ y ∧ y < 256) :
    Calls Try.prog 63 #[.pointer (some ⟨p, 0, none⟩)] w fun e w' => e = .panicked [{ v := pnc 5, recovered := false }] ∧ (∃ l', Rdr p lo w' l' 0) ∧ Kp p (p + 1) w w' := by
  have HZ := Lib.hid hz
  have HB : Hid (∀ y ∈ t.take n, 0 ≤ y ∧ y < 256) := fun y hy => hb y (List.mem_of_mem_take hy)
  have hlen : (t.take n).length ≤ 8 := by rw [List.length_take]; omega
  have HS : Hid (Pk.val (t.take n) < 2 ^ 64) := Pk.val_small HB.out hlen
  clear hz hb
  go_enter Try.func63, Try.ntmps63
  go_wp2_with fail
  refine (take_ok 1 _ h (by simp)).mono ?_
  rintro e w1 ⟨v1, rfl, hr1, hr2, hk⟩
  obtain ⟨ao, c, rfl, _, _, hcl⟩ := hr1.open
  obtain ⟨b1, o1, rfl, _, _, hc1⟩ := hcl (by simp)
  have c1 : w1.cell? ⟨b1, o1, none⟩ = some (.int .u8 x) := hc1 0 (by simp)
  have HK := Lib.hid hk
  have HR : Hid (Rdr p lo w1 t 0) := hr2
  clear hr1 hr2 hk hc1 hcl
  rcases hs with ⟨h1, rfl, hv⟩ | ⟨h1, rfl, hv⟩
  all_goals
    go_wp2_with fail
    refine (take_ok n _ HR.out ht).mono ?_
    rintro e w2 ⟨v2, rfl, hr1, hr2, hk⟩
    have HK2 := Lib.hid (HK.out.trans hk)
    have HR2 := Lib.hid hr2
    have HV := Lib.hid hr1
    clear hr1 hr2 hk
    go_wp2_with fail
    refine (mag_ok _ _ _ HV.out HB.out hlen HZ.out).mono ?_
    rintro e w' ⟨rfl, hk3⟩
    have HK3 := Lib.hid hk3
    clear hk3
    go_wp2_with fail
    exact ⟨rfl, rfl, ⟨_, HR2.out.keep0 HK3.out⟩, HK2.out.pure HK3.out⟩

theorem neg_val (v : Nat) (h : (v : Int) ≤ 9223372036854775808) : wrap64 (IntKind.u64.wrap (-(v : Int))) = -(v : Int) := by
  simp only [wrap64, IntKind.wrap, IntKind.bits, IntKind.signed, Bool.false_and, Bool.false_eq_true, if_false]
  omega

theorem num_ok {p lo : Nat} (x : Int) (n : Nat) (t : List Int) (w : World) (h : Rdr p lo w (x :: t) 0) (hx : 0 ≤ x ∧ x < 256) (V : Int) (hs : (16 < x ∧ x = (n : Int) + 16 ∧ (Pk.val (t.take n) : Int) ≤ 9223372036854775808 ∧ V = -(Pk.val (t.take n) : Int)) ∨ (x ≤ 16 ∧ x = (n : Int) ∧ (Pk.val (t.take n) : Int) ≤ 9223372036854775807 ∧ V = (Pk.val (t.take n) : Int)))
    (h8 : n ≤ 8) (ht : n ≤ t.length) (hz : (t.take n).head? ≠ some 0) (hb : ∀ y ∈ t, 0 ≤ y ∧ y < 256) :
    Calls Try.prog 63 #[.pointer (some ⟨p, 0, none⟩)] w fun e w' => e = .returned (.int .i64 V) ∧ Rdr p lo w' (t.drop n) 0 ∧ Kp p (p + 1) w w' := by
  have HZ := Lib.hid hz
  have HB : Hid (∀ y ∈ t.take n, 0 ≤ y ∧ y < 256) := fun y hy => hb y (List.mem_of_mem_take hy)
  have hlen : (t.take n).length ≤ 8 := by rw [List.length_take]; omega
  clear hz hb
  go_enter Try.func63, Try.ntmps63
  go_wp2_with fail
  refine (take_ok 1 _ h (by simp)).mono ?_
  rintro e w1 ⟨v1, rfl, hr1, hr2, hk⟩
  obtain ⟨ao, c, rfl, _, _, hcl⟩ := hr1.open
  obtain ⟨b1, o1, rfl, _, _, hc1⟩ := hcl (by simp)
  have c1 : w1.cell? ⟨b1, o1, none⟩ = some (.int .u8 x) := hc1 0 (by simp)
  have HK := Lib.hid hk
  have HR : Hid (Rdr p lo w1 t 0) := hr2
  clear hr1 hr2 hk hc1 hcl
  rcases hs with ⟨h1, rfl, hv, rfl⟩ | ⟨h1, rfl, hv, rfl⟩
  all_goals
    go_wp2_with fail
    refine (take_ok n _ HR.out ht).mono ?_
    rintro e w2 ⟨v2, rfl, hr1, hr2, hk⟩
    have HK2 := Lib.hid (HK.out.trans hk)
    have HR2 := Lib.hid hr2
    have HV := Lib.hid hr1
    clear hr1 hr2 hk
    go_wp2_with fail
    refine (mag_ok _ _ _ HV.out HB.out hlen HZ.out).mono ?_
    rintro e w' ⟨rfl, hk3⟩
    have HK3 := Lib.hid hk3
    clear hk3
    generalize hu : Pk.val (t.take n) = u at hv ⊢
    have HU := Lib.hid hu
    clear hu
    go_wp2_with fail
    try rw [neg_val u hv]
    rw [← HU.out]
    go_ret
    exact ⟨rfl, HR2.out.keep0 HK3.out, HK2.out.pure HK3.out⟩

/-- number: a number, or a panic that bears why there is none. -/
theorem num_any {p lo : Nat} (l : List Int) (w : World) (h : Rdr p lo w l 0) (hb : ∀ y ∈ l, 0 ≤ y ∧ y < 256) :
    Calls Try.prog 63 #[.pointer (some ⟨p, 0, none⟩)] w (Got (.int .i64) p lo w l (Pk.num l)) := by
  cases l with
  | nil =>
    refine (num_nil w h).mono ?_
    rintro e w' ⟨rfl, rfl⟩
    exact ⟨Kp.refl _ _ _, .inr ⟨by decide, rfl, _, h⟩⟩
  | cons x t =>
    have hx := hb x (by simp)
    have hbt : ∀ y ∈ t, 0 ≤ y ∧ y < 256 := fun y hy => hb y (by simp [hy])
    have hsOf : (16 < x ∧ Pk.sOf x = x - 16) ∨ (x ≤ 16 ∧ Pk.sOf x = x) := by
      unfold Pk.sOf
      split <;> omega
    show Calls _ _ _ _ (Got _ p lo w (x :: t) (Pk.numC (decide (16 < x)) (Pk.sOf x) t))
    obtain ⟨n, hn⟩ : ∃ n : Nat, Pk.sOf x = (n : Int) := ⟨(Pk.sOf x).toNat, by omega⟩
    rw [hn] at hsOf ⊢
    unfold Pk.numC
    rw [Int.toNat_natCast]
    by_cases h1 : 8 < (n : Int)
    · rw [if_pos h1]
      refine (num_long x t w h hx (by omega)).mono ?_
      rintro e w' ⟨rfl, hr, hk⟩
      exact ⟨hk, .inr ⟨by decide, rfl, _, hr⟩⟩
    · rw [if_neg h1]
      by_cases h2 : (t.length : Int) < (n : Int)
      · rw [if_pos h2]
        refine (num_short x t w h hx (by omega)).mono ?_
        rintro e w' ⟨rfl, hr, hk⟩
        exact ⟨hk, .inr ⟨by decide, rfl, _, hr⟩⟩
      · rw [if_neg h2]
        by_cases hz : (t.take n).head? = some 0
        · rw [if_pos (.inl hz)]
          refine (num_zero x n t w h hx (by omega) (by omega) (by omega) hz).mono ?_
          rintro e w' ⟨rfl, hr, hk⟩
          exact ⟨hk, .inr ⟨by decide, rfl, hr⟩⟩
        · by_cases ho : Pk.lim (decide (16 < x)) < Pk.val (t.take n)
          · rw [if_pos (.inr ho)]
            have ho' : (16 < x ∧ 9223372036854775808 < Pk.val (t.take n)) ∨ (x ≤ 16 ∧ 9223372036854775807 < Pk.val (t.take n)) := by
              unfold Pk.lim at ho
              by_cases hxx : 16 < x
              · simp only [hxx, decide_true, if_true] at ho
                exact .inl ⟨hxx, ho⟩
              · simp only [hxx, decide_false, Bool.false_eq_true, if_false] at ho
                exact .inr ⟨by omega, ho⟩
            refine (num_over x n t w h hx (by omega) (by omega) (by omega) hz hbt).mono ?_
            rintro e w' ⟨rfl, hr, hk⟩
            exact ⟨hk, .inr ⟨by decide, rfl, hr⟩⟩
          · rw [if_neg (fun hc => hc.elim hz ho)]
            have ho' : (16 < x ∧ Pk.val (t.take n) ≤ 9223372036854775808 ∧ (if decide (16 < x) = true then -(Pk.val (t.take n) : Int) else (Pk.val (t.take n) : Int)) = -(Pk.val (t.take n) : Int)) ∨
                (x ≤ 16 ∧ Pk.val (t.take n) ≤ 9223372036854775807 ∧ (if decide (16 < x) = true then -(Pk.val (t.take n) : Int) else (Pk.val (t.take n) : Int)) = (Pk.val (t.take n) : Int)) := by
              unfold Pk.lim at ho
              by_cases hxx : 16 < x
              · simp only [hxx, decide_true, if_true] at ho ⊢
                exact .inl ⟨trivial, by omega, trivial⟩
              · simp only [hxx, decide_false, Bool.false_eq_true, if_false] at ho ⊢
                exact .inr ⟨by omega, by omega, trivial⟩
            refine (num_ok x n t w h hx _ (by rcases ho' with ⟨a, b, c⟩ | ⟨a, b, c⟩; exact .inl ⟨a, by omega, by omega, c⟩; exact .inr ⟨a, by omega, by omega, c⟩) (by omega) (by omega) hz hbt).mono ?_
            rintro e w' ⟨rfl, hr, hk⟩
            exact ⟨hk, .inl ⟨rfl, rfl, hr⟩⟩

end Go.Proofs.Ytgokhagbknlfaaa
