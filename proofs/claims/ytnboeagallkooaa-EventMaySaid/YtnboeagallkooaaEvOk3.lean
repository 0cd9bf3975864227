/-
  The landed Get keeps the document.
-/
import Derived.Test.YtnboeagallkooaaEvSpec
import Derived.Test.YtnboeagallkooaaReaderI
import Derived.Deep.OwnRows
namespace Go.Proofs.Ytnboeagallkooaa
open Go.RowKit

/-! A row of ints that was made. -/

def RowZ (w : World) (g : Nat) (l : List Int) : Prop := ∃ cur : Array Value, w.heap[g]? = some (.cells cur 3) ∧ cur.toList = l.map (.int .i64)

theorem RowZ.size {l : List Int} {cur : Array Value} (h : cur.toList = l.map (.int .i64)) : cur.size = l.length := by
  rw [← Array.length_toList, h, List.length_map]

theorem RowZ.cell {w : World} {g : Nat} {l : List Int} (h : RowZ w g l) {k : Nat} (hk : k < l.length) : w.cell? ⟨g, k, none⟩ = some (.int .i64 (l.getD k 0)) ∧ w.frozen? ⟨g, k, none⟩ = false := by
  obtain ⟨cur, h1, h2⟩ := h
  have h3 : cur[k]? = some (.int .i64 (l.getD k 0)) := by
    rw [← Array.getElem?_toList, h2]
    simp [List.getD, hk]
  exact ⟨by simp [World.cell?, h1, h3], by simp [World.frozen?, h1]⟩

theorem RowZ.set {w : World} {g : Nat} {l : List Int} (h : RowZ w g l) (k : Nat) (y : Int) : RowZ (w.setCell ⟨g, k, none⟩ (.int .i64 y)) g (l.set k y) := by
  obtain ⟨cur, h1, h2⟩ := h
  refine ⟨cur.setIfInBounds k (.int .i64 y), by simp [World.setCell, Array.getElem?_modify, h1], ?_⟩
  rw [Array.toList_setIfInBounds, h2, List.map_set]

theorem RowZ.keep {lo hi : Nat} {w w' : World} {g : Nat} {l : List Int} (h : RowZ w g l) (k : Kp lo hi w w') (hd : g < lo ∨ hi ≤ g) : RowZ w' g l := by
  obtain ⟨cur, h1, h2⟩ := h
  exact ⟨cur, k.heap h1 hd, h2⟩

theorem RowZ.lt {w : World} {g : Nat} {l : List Int} (h : RowZ w g l) : g < w.heap.size := by
  obtain ⟨cur, h1, h2⟩ := h
  exact heap_lt h1

theorem RowZ.own {w : World} {lo g n : Nat} {l : List Int} (h : RowZ w g l) (hg : lo ≤ g) (hn : l.length = n) (hm : n ≤ maxLen) : OwnI .i64 3 lo w.heap.size w (.slice (some ⟨g, 0, none⟩) n n) l := by
  obtain ⟨cur, h1, h2⟩ := h
  have h3 := RowZ.size h2
  refine OwnI.of_rowN ⟨by simp [hn], .inr ⟨g, n, cur, rfl, hg, h1, Nat.le_refl _, hm, by omega, ?_⟩⟩ hn
  rw [Nat.mul_one, List.take_of_length_le (by rw [Array.length_toList]; omega), h2]

/-- What stands in the row when its first places are written. -/
def zrow (a : List Int) (n : Nat) : List Int := a ++ List.replicate (n - a.length) 0

theorem zrow_len {a : List Int} {n : Nat} (h : a.length ≤ n) : (zrow a n).length = n := by
  simp [zrow]
  omega

theorem zrow_set {a : List Int} {n : Nat} (h : a.length < n) (x : Int) : (zrow a n).set a.length x = zrow (a ++ [x]) n := by
  unfold zrow
  rw [List.set_append_right _ _ (Nat.le_refl _), Nat.sub_self, List.length_append, List.append_assoc]
  congr 1
  obtain ⟨m, hm⟩ : ∃ m, n - a.length = m + 1 := ⟨n - a.length - 1, by omega⟩
  rw [hm, List.replicate_succ, List.set_cons_zero, show n - (a.length + [x].length) = m by simp; omega]
  rfl

theorem zrow_full {a : List Int} {n : Nat} (h : a.length = n) : zrow a n = a := by
  unfold zrow
  rw [h, Nat.sub_self]
  simp

theorem made_zrow (n : Nat) : (madeCells #[Value.int .i64 0] n).toList = (zrow [] n).map (.int .i64) := by
  apply List.ext_getElem
  · simp [madeCells, zrow]
  intro i h1 h2
  simp [madeCells, Nat.mod_one, zrow]

/-! The reading's state. -/

theorem rest_int {l : List Int} {er : Int} {y : Int} (h : y ∈ (Pk.rdInt l er).2.1) : y ∈ l := by
  unfold Pk.rdInt Pk.nxt at h
  split at h
  · simp only at h
    split at h
    · exact List.mem_of_mem_drop h
    · exact h
  · exact h

theorem rest_cnt {m : Int} {l : List Int} {er : Int} {y : Int} (h : y ∈ (Pk.rdCnt m l er).2.1) : y ∈ l := by
  unfold Pk.rdCnt Pk.nxt at h
  split at h
  · simp only at h
    split at h
    · exact List.mem_of_mem_drop h
    · exact h
  · exact h

/-- Get's memory: what it answers with in block q, the event in the next one, the reader in block p. -/
structure GS (w : World) (q p lo : Nat) (row : Array Value) (s : Ev.St) (W : World) : Prop where
  hq : q = w.heap.size
  hl : q + 2 ≤ lo
  hp : lo ≤ p
  ev : W.heap[q + 1]? = some (.cells row 26 (0, 0))
  rs : W.heap[q]? = some (.cells #[Value.int .i64 0, .int .i64 0, .int .i64 0, .slice none 0 0, .int .i64 0, .int .i64 0, .int .i64 0, .int .i64 0, .int .i64 0, .int .i64 0] 26 (0, 0))
  rd : Rdr p lo W s.1 s.2
  bs : ∀ y ∈ s.1, 0 ≤ y ∧ y < 256
  kp : Kp 0 0 w W

theorem gs_int {w : World} {q p lo : Nat} {row : Array Value} {s t : Ev.St} {a : Int} {W : World} (E : Ev.i1 s = (a, t)) (h : GS w q p lo row s W) :
    Calls Try.prog 28 #[.pointer (some ⟨p, 0, none⟩)] W fun e w' => e = .returned (.int .i64 a) ∧ GS w q p lo row t w' ∧ Kp p (p + 1) W w' := by
  have hl := h.hl
  have hp := h.hp
  have hq := h.hq
  refine (rint_any s.1 s.2 W h.rd h.bs).mono ?_
  rintro e w' ⟨he, hr, hk⟩
  have E' : Pk.rdInt s.1 s.2 = (a, t) := E
  have hb : ∀ y ∈ (Pk.rdInt s.1 s.2).2.1, 0 ≤ y ∧ y < 256 := fun y hy => h.bs y (rest_int hy)
  rw [E'] at he hr hb
  exact ⟨he, ⟨h.hq, h.hl, h.hp, hk.heap h.ev (.inl (by omega)), hk.heap h.rs (.inl (by omega)), hr, hb, h.kp.step hk fun j h1 h2 => .inl (by omega)⟩, hk⟩

theorem gs_cnt {w : World} {q p lo : Nat} {row : Array Value} {s t : Ev.St} {a : Int} {W : World} (E : Ev.c1 s = (a, t)) (h : GS w q p lo row s W) :
    Calls Try.prog 29 #[.pointer (some ⟨p, 0, none⟩), .int .i64 64] W fun e w' => e = .returned (.int .i64 a) ∧ GS w q p lo row t w' ∧ Kp p (p + 1) W w' := by
  have hl := h.hl
  have hp := h.hp
  have hq := h.hq
  refine (rcount_any 64 s.1 s.2 W h.rd h.bs).mono ?_
  rintro e w' ⟨he, hr, hk⟩
  have E' : Pk.rdCnt 64 s.1 s.2 = (a, t) := E
  have hb : ∀ y ∈ (Pk.rdCnt 64 s.1 s.2).2.1, 0 ≤ y ∧ y < 256 := fun y hy => h.bs y (rest_cnt hy)
  rw [E'] at he hr hb
  exact ⟨he, ⟨h.hq, h.hl, h.hp, hk.heap h.ev (.inl (by omega)), hk.heap h.rs (.inl (by omega)), hr, hb, h.kp.step hk fun j h1 h2 => .inl (by omega)⟩, hk⟩

/-- A step that turns no block of Get's. -/
theorem GS.keep {w : World} {q p lo : Nat} {row : Array Value} {s : Ev.St} {W W' : World} (h : GS w q p lo row s W) {a b : Nat} (hk : Kp a b W W') (ha : p < a) : GS w q p lo row s W' := by
  have hl := h.hl
  have hp := h.hp
  have hq := h.hq
  exact ⟨h.hq, h.hl, h.hp, hk.heap h.ev (.inl (by omega)), hk.heap h.rs (.inl (by omega)), h.rd.keep hk (fun c h1 h2 => .inl (by omega)) h.hp, h.bs, h.kp.step hk fun j h1 h2 => .inl (by omega)⟩

theorem GS.keep0 {w : World} {q p lo : Nat} {row : Array Value} {s : Ev.St} {W W' : World} (h : GS w q p lo row s W) (hk : Kp 0 0 W W') : GS w q p lo row s W' :=
  ⟨h.hq, h.hl, h.hp, hk.heap h.ev (.inr (Nat.zero_le _)), hk.heap h.rs (.inr (Nat.zero_le _)), h.rd.keep0 hk, h.bs, h.kp.trans hk⟩

theorem kp_cell (q k : Nat) (W : World) (u : Value) : Kp q (q + 1) W (W.setCell ⟨q, k, none⟩ u) :=
  Kp.setCell (p := ⟨q, k, none⟩) (Kp.refl _ _ _) (.inr ⟨Nat.le_refl _, Nat.lt_succ_self _⟩) _

/-- A number of the event is written. -/
theorem GS.set {w : World} {q p lo : Nat} {row : Array Value} {s : Ev.St} {W : World} (h : GS w q p lo row s W) (k : Nat) (u : Value) : GS w q p lo (row.setIfInBounds k u) s (W.setCell ⟨q + 1, k, none⟩ u) := by
  have hl := h.hl
  have hp := h.hp
  have hq := h.hq
  have hk := kp_cell (q + 1) k W u
  exact ⟨h.hq, h.hl, h.hp, rowE_set h.ev k u, hk.heap h.rs (.inl (by omega)), h.rd.keep hk (fun c h1 h2 => .inr (by omega)) h.hp, h.bs, h.kp.step hk fun j h1 h2 => .inl (by omega)⟩

set_option maxRecDepth 100000 in
set_option maxHeartbeats 4000000 in
theorem egetOk : EGetOk := by
  intro l1 h1 L w v hv hby hL
  obtain ⟨a1, t1, E1⟩ : ∃ a t, Ev.i1 (L, 0) = (a, t) := ⟨_, _, rfl⟩
  obtain ⟨a2, t2, E2⟩ : ∃ a t, Ev.i1 t1 = (a, t) := ⟨_, _, rfl⟩
  obtain ⟨a3, t3, E3⟩ : ∃ a t, Ev.i1 t2 = (a, t) := ⟨_, _, rfl⟩
  have hcr := Ev.c1_range t3
  obtain ⟨a4, t4, E4⟩ : ∃ a t, Ev.c1 t3 = (a, t) := ⟨_, _, rfl⟩
  rw [E4] at hcr
  simp only at hcr
  obtain ⟨N, hN⟩ : ∃ N : Nat, a4 = (N : Int) := ⟨a4.toNat, by omega⟩
  subst hN
  have hN64 : N ≤ 64 := by omega
  obtain ⟨d, t5, E5⟩ : ∃ a t, Ev.n1 N t4 = (a, t) := ⟨_, _, rfl⟩
  obtain ⟨a6, t6, E6⟩ : ∃ a t, Ev.i1 t5 = (a, t) := ⟨_, _, rfl⟩
  obtain ⟨a7, t7, E7⟩ : ∃ a t, Ev.i1 t6 = (a, t) := ⟨_, _, rfl⟩
  obtain ⟨a8, t8, E8⟩ : ∃ a t, Ev.i1 t7 = (a, t) := ⟨_, _, rfl⟩
  obtain ⟨a9, t9, E9⟩ : ∃ a t, Ev.i1 t8 = (a, t) := ⟨_, _, rfl⟩
  obtain ⟨a10, t10, E10⟩ : ∃ a t, Ev.i1 t9 = (a, t) := ⟨_, _, rfl⟩
  obtain ⟨a11, t11, E11⟩ : ∃ a t, Ev.i1 t10 = (a, t) := ⟨_, _, rfl⟩
  have hdl : d.length = N := by
    have h := Ev.n1_len N t4.1 t4.2
    rw [show (t4.1, t4.2) = t4 from rfl, E5] at h
    exact h
  have HG : Hid (Ev.get L = if Pk.dne t11.1 t11.2 = 0 then (⟨a1, a2, a3, d, a6, a7, a8, a9, a10, a11⟩, 0) else (Ev.zero, Pk.dne t11.1 t11.2)) := by
    have x1 : Ev.s1 L = (a1, t1) := E1
    have x2 : Ev.s2 L = (a2, t2) := by unfold Ev.s2; rw [x1]; exact E2
    have x3 : Ev.s3 L = (a3, t3) := by unfold Ev.s3; rw [x2]; exact E3
    have x4 : Ev.s4 L = ((N : Int), t4) := by unfold Ev.s4; rw [x3]; exact E4
    have x5 : Ev.s5 L = (d, t5) := by unfold Ev.s5; rw [x4]; simp only [Int.toNat_natCast]; exact E5
    have x6 : Ev.s6 L = (a6, t6) := by unfold Ev.s6; rw [x5]; exact E6
    have x7 : Ev.s7 L = (a7, t7) := by unfold Ev.s7; rw [x6]; exact E7
    have x8 : Ev.s8 L = (a8, t8) := by unfold Ev.s8; rw [x7]; exact E8
    have x9 : Ev.s9 L = (a9, t9) := by unfold Ev.s9; rw [x8]; exact E9
    have x10 : Ev.s10 L = (a10, t10) := by unfold Ev.s10; rw [x9]; exact E10
    have x11 : Ev.s11 L = (a11, t11) := by unfold Ev.s11; rw [x10]; exact E11
    show _ = _
    unfold Ev.get Ev.err Ev.read
    rw [x1, x2, x3, x5, x6, x7, x8, x9, x10, x11]
  have HE1 := Lib.hid E1
  have HE2 := Lib.hid E2
  have HE3 := Lib.hid E3
  have HE4 := Lib.hid E4
  have HE5 := Lib.hid E5
  have HE6 := Lib.hid E6
  have HE7 := Lib.hid E7
  have HE8 := Lib.hid E8
  have HE9 := Lib.hid E9
  have HE10 := Lib.hid E10
  have HE11 := Lib.hid E11
  have HBY := Lib.hid hby
  have HDL := Lib.hid hdl
  clear E1 E2 E3 E4 E5 E6 E7 E8 E9 E10 E11 hcr hby hdl
  have hs1 : (w.alloc (.cells #[Value.int .i64 0, .int .i64 0, .int .i64 0, .slice none 0 0, .int .i64 0, .int .i64 0, .int .i64 0, .int .i64 0, .int .i64 0, .int .i64 0] 26)).heap.size = w.heap.size + 1 := by simp
  have hs2 : ((w.alloc (.cells #[Value.int .i64 0, .int .i64 0, .int .i64 0, .slice none 0 0, .int .i64 0, .int .i64 0, .int .i64 0, .int .i64 0, .int .i64 0, .int .i64 0] 26)).alloc (.cells #[Value.int .i64 0, .int .i64 0, .int .i64 0, .slice none 0 0, .int .i64 0, .int .i64 0, .int .i64 0, .int .i64 0, .int .i64 0, .int .i64 0] 26)).heap.size = w.heap.size + 2 := by simp
  have HK0 : Hid (Kp 0 0 w ((w.alloc (.cells #[Value.int .i64 0, .int .i64 0, .int .i64 0, .slice none 0 0, .int .i64 0, .int .i64 0, .int .i64 0, .int .i64 0, .int .i64 0, .int .i64 0] 26)).alloc (.cells #[Value.int .i64 0, .int .i64 0, .int .i64 0, .slice none 0 0, .int .i64 0, .int .i64 0, .int .i64 0, .int .i64 0, .int .i64 0, .int .i64 0] 26))) := ((Kp.refl _ _ _).alloc _).alloc _
  have HB0 : Hid (((w.alloc (.cells #[Value.int .i64 0, .int .i64 0, .int .i64 0, .slice none 0 0, .int .i64 0, .int .i64 0, .int .i64 0, .int .i64 0, .int .i64 0, .int .i64 0] 26)).alloc (.cells #[Value.int .i64 0, .int .i64 0, .int .i64 0, .slice none 0 0, .int .i64 0, .int .i64 0, .int .i64 0, .int .i64 0, .int .i64 0, .int .i64 0] 26)).heap[w.heap.size + 1]? = some (.cells #[Value.int .i64 0, .int .i64 0, .int .i64 0, .slice none 0 0, .int .i64 0, .int .i64 0, .int .i64 0, .int .i64 0, .int .i64 0, .int .i64 0] 26 (0, 0))) := by
    have h := heap_alloc_new (w.alloc (.cells #[Value.int .i64 0, .int .i64 0, .int .i64 0, .slice none 0 0, .int .i64 0, .int .i64 0, .int .i64 0, .int .i64 0, .int .i64 0, .int .i64 0] 26)) (.cells #[Value.int .i64 0, .int .i64 0, .int .i64 0, .slice none 0 0, .int .i64 0, .int .i64 0, .int .i64 0, .int .i64 0, .int .i64 0, .int .i64 0] 26)
    rw [hs1] at h
    exact h
  have HQ0 : Hid (((w.alloc (.cells #[Value.int .i64 0, .int .i64 0, .int .i64 0, .slice none 0 0, .int .i64 0, .int .i64 0, .int .i64 0, .int .i64 0, .int .i64 0, .int .i64 0] 26)).alloc (.cells #[Value.int .i64 0, .int .i64 0, .int .i64 0, .slice none 0 0, .int .i64 0, .int .i64 0, .int .i64 0, .int .i64 0, .int .i64 0, .int .i64 0] 26)).heap[w.heap.size]? = some (.cells #[Value.int .i64 0, .int .i64 0, .int .i64 0, .slice none 0 0, .int .i64 0, .int .i64 0, .int .i64 0, .int .i64 0, .int .i64 0, .int .i64 0] 26 (0, 0))) := ((Kp.refl 0 0 _).alloc _).heap (heap_alloc_new w _) (.inr (Nat.zero_le _))
  have HV := Lib.hid hv
  obtain ⟨ao, c, rfl, _, _, _⟩ := hv.open
  have HS2 := Lib.hid hs2
  clear hs1 hs2 hv
  go_enter Try.func16, Try.ntmps16
  go_wp2_with fail
  generalize (w.alloc (.cells #[Value.int .i64 0, .int .i64 0, .int .i64 0, .slice none 0 0, .int .i64 0, .int .i64 0, .int .i64 0, .int .i64 0, .int .i64 0, .int .i64 0] 26)).alloc (.cells #[Value.int .i64 0, .int .i64 0, .int .i64 0, .slice none 0 0, .int .i64 0, .int .i64 0, .int .i64 0, .int .i64 0, .int .i64 0, .int .i64 0] 26) = w0 at HK0 HB0 HQ0 HS2 ⊢
  generalize hq : w.heap.size = q at HB0 HQ0 HS2 ⊢
  have HQE := Lib.hid hq
  clear hq
  refine (from_any _ L w0 (HV.out.keep0 HK0.out) (by omega)).mono ?_
  rintro r w1 ⟨p, rfl, hp, hr, hk⟩
  have HG1 : Hid (GS w q p w0.heap.size #[Value.int .i64 0, .int .i64 0, .int .i64 0, .slice none 0 0, .int .i64 0, .int .i64 0, .int .i64 0, .int .i64 0, .int .i64 0, .int .i64 0] (L, 0) w1) := ⟨HQE.out.symm, by have := HS2.out; omega, hp, hk.heap HB0.out (.inr (Nat.zero_le _)), hk.heap HQ0.out (.inr (Nat.zero_le _)), hr, HBY.out, HK0.out.trans hk⟩
  have HPQ : Hid (q + 2 ≤ p) := by
    show _ ≤ _
    have := HS2.out
    omega
  clear hr hk hp HB0 HQ0 HK0 HV HBY
  generalize w0.heap.size = lo at HG1 HS2
  go_wp2_with fail
  refine (gs_int HE1.out HG1.out).mono ?_
  rintro r V1 ⟨rfl, hg, _⟩
  have HG2 := Lib.hid hg
  clear hg
  go_wp2_with fail
  refine (gs_int HE2.out HG2.out).mono ?_
  rintro r V2 ⟨rfl, hg, _⟩
  have HG3 := Lib.hid hg
  clear hg
  go_wp2_with fail
  refine (gs_int HE3.out HG3.out).mono ?_
  rintro r V3 ⟨rfl, hg, _⟩
  obtain ⟨r0, f0⟩ := rowE_cell hg.ev (k := 0) (show 0 < 10 by decide)
  obtain ⟨r1, f1⟩ := rowE_cell hg.ev (k := 1) (show 1 < 10 by decide)
  obtain ⟨r2, f2⟩ := rowE_cell hg.ev (k := 2) (show 2 < 10 by decide)
  have HG4 : Hid (GS w q p lo #[Value.int .i64 a1, .int .i64 a2, .int .i64 a3, .slice none 0 0, .int .i64 0, .int .i64 0, .int .i64 0, .int .i64 0, .int .i64 0, .int .i64 0] t3 (((V3.setCell ⟨q + 1, 0, none⟩ (.int .i64 a1)).setCell ⟨q + 1, 1, none⟩ (.int .i64 a2)).setCell ⟨q + 1, 2, none⟩ (.int .i64 a3))) := ((hg.set 0 _).set 1 _).set 2 _
  generalize (Array.getD _ 0 undef) = y0 at r0
  generalize (Array.getD _ 1 undef) = y1 at r1
  generalize (Array.getD _ 2 undef) = y2 at r2
  clear hg HG1 HG2 HG3
  go_wp2_with fail
  generalize ((V3.setCell ⟨q + 1, 0, none⟩ (.int .i64 a1)).setCell ⟨q + 1, 1, none⟩ (.int .i64 a2)).setCell ⟨q + 1, 2, none⟩ (.int .i64 a3) = W3 at HG4 ⊢
  clear r0 f0 r1 f1 r2 f2
  refine (gs_cnt HE4.out HG4.out).mono ?_
  rintro r V4 ⟨rfl, hg, _⟩
  have hga := hg.keep0 ((Kp.refl 0 0 V4).alloc (.cells (madeCells #[.int .i64 0] N) 3))
  obtain ⟨r3, f3⟩ := rowE_cell hga.ev (k := 3) (show 3 < 10 by decide)
  have hmk := run_make_row' (P := Try.prog) 24 3 (.int .i64 0) 8 Try.underlying24 info_int rfl .i64 .i64 N (by omega) (by omega) V4
  have HR0 : Hid (RowZ ((V4.alloc (.cells (madeCells #[.int .i64 0] N) 3)).setCell ⟨q + 1, 3, none⟩ (.slice (some ⟨V4.heap.size, 0, none⟩) N N)) V4.heap.size (zrow [] N)) := RowZ.keep ⟨_, heap_alloc_new V4 _, made_zrow N⟩ (kp_cell (q + 1) 3 _ _) (.inr (by have := hg.rd.lt; have := HPQ.out; omega))
  have HG5 : Hid (GS w q p lo #[Value.int .i64 a1, .int .i64 a2, .int .i64 a3, .slice (some ⟨V4.heap.size, 0, none⟩) N N, .int .i64 0, .int .i64 0, .int .i64 0, .int .i64 0, .int .i64 0, .int .i64 0] t4 ((V4.alloc (.cells (madeCells #[.int .i64 0] N) 3)).setCell ⟨q + 1, 3, none⟩ (.slice (some ⟨V4.heap.size, 0, none⟩) N N))) := hga.set 3 _
  have HPG : Hid (p < V4.heap.size) := hg.rd.lt
  have HGW : Hid (w.heap.size ≤ V4.heap.size) := hg.kp.size
  generalize (Array.getD _ 3 undef) = y3 at r3
  clear hg hga HG4
  go_wp2_with fail
  generalize hW : (V4.alloc (.cells (madeCells #[.int .i64 0] N) 3)).setCell ⟨q + 1, 3, none⟩ (.slice (some ⟨V4.heap.size, 0, none⟩) N N) = W4 at HR0 HG5 ⊢
  clear hW r3 f3 hmk
  generalize V4.heap.size = g at HR0 HG5 HPG HGW ⊢
  obtain ⟨cg3, _⟩ := rowE_cell HG5.out.ev (k := 3) (show 3 < 10 by decide)
  change W4.cell? ⟨q + 1, 3, none⟩ = some (.slice (some ⟨g, 0, none⟩) N N) at cg3
  go_wp2_with fail
  clear cg3
  go_loopw [6, 28] (fun _ i wr => ∃ k : Nat, k ≤ N ∧ i = .int .i64 k ∧ RowZ wr g (zrow (Ev.n1 k t4).1 N) ∧ Hid (GS w q p lo #[Value.int .i64 a1, .int .i64 a2, .int .i64 a3, .slice (some ⟨g, 0, none⟩) N N, .int .i64 0, .int .i64 0, .int .i64 0, .int .i64 0, .int .i64 0, .int .i64 0] (Ev.n1 k t4).2 wr)) (fun _ i _ => N - (intOf i).toNat)
  case atStart => exact ⟨0, Nat.zero_le _, rfl, HR0.out, HG5.out⟩
  case round =>
    obtain ⟨k, hk, rfl, hrow, HGk⟩ := hrel
    have HRk := Lib.hid hrow
    have HLEN : Hid ((Ev.n1 k t4).1.length = k) := Ev.n1_len _ _ _
    clear hrow
    by_cases hlt : k < N
    · have HSN := Lib.hid (Ev.n1_snoc k t4)
      have HZS := Lib.hid (zrow_set (a := (Ev.n1 k t4).1) (n := N) (by rw [HLEN.out]; exact hlt))
      have HZL : Hid ((zrow (Ev.n1 k t4).1 N).length = N) := zrow_len (by rw [HLEN.out]; omega)
      generalize Ev.n1 k t4 = nk at *
      obtain ⟨ds, st⟩ := nk
      simp only at HRk HGk HSN HLEN HZS HZL
      rw [HLEN.out] at HZS
      obtain ⟨x, st2, EX⟩ : ∃ a t, Ev.i1 st = (a, t) := ⟨_, _, rfl⟩
      rw [EX] at HSN
      simp only at HSN
      obtain ⟨c3, _⟩ := rowE_cell HGk.out.ev (k := 3) (show 3 < 10 by decide)
      change wr.cell? ⟨q + 1, 3, none⟩ = some (.slice (some ⟨g, 0, none⟩) N N) at c3
      have HCALL : Hid (∀ W, W = wr.drew → Calls Try.prog 28 #[.pointer (some ⟨p, 0, none⟩)] W fun r w' => r = .returned (.int .i64 x) ∧ GS w q p lo #[Value.int .i64 a1, .int .i64 a2, .int .i64 a3, .slice (some ⟨g, 0, none⟩) N N, .int .i64 0, .int .i64 0, .int .i64 0, .int .i64 0, .int .i64 0, .int .i64 0] st2 w' ∧ Kp p (p + 1) W w') := fun W hW => gs_int EX (by rw [hW]; exact HGk.out.keep0 ((Kp.refl 0 0 _).drew))
      clear EX
      have k0 : (0 : Int) ≤ (k : Int) := Int.natCast_nonneg _
      have k1 : (k : Int) < (N : Int) := by omega
      go_wp2_with fail
      go_region_held3 (fun w' => w'.cell? ⟨q + 1, 3, none⟩ = some (.slice (some ⟨g, 0, none⟩) N N)) (first | exact c3 | exact c37 | exact (kp_cell g k w7 _).cell c37 (.inl (by have := HPG.out; have := HPQ.out; omega)))
        ((first
          | (go_at_call 28
             refine (HCALL.out _ rfl).mono ?_
             rintro r w7 ⟨rfl, hg7, hk7⟩
             obtain ⟨c37, _⟩ := rowE_cell hg7.ev (k := 3) (show 3 < 10 by decide)
             change w7.cell? ⟨q + 1, 3, none⟩ = some (.slice (some ⟨g, 0, none⟩) N N) at c37
             have hrow7 := (HRk.out.keep ((Kp.refl 0 0 _).drew) (.inr (Nat.zero_le _))).keep hk7 (.inr (by have := HPG.out; omega))
             obtain ⟨cz7, fz7⟩ := hrow7.cell (k := k) (by rw [HZL.out]; exact hlt)
             generalize List.getD _ k 0 = z7 at cz7)))
      all_goals
        have HR8 := Lib.hid (hrow7.set k x)
        have HG8 := Lib.hid (hg7.keep (kp_cell g k w7 (.int .i64 x)) HPG.out)
        rw [HZS.out] at HR8
        clear hrow7 hg7 hk7 c37 cz7 fz7 c3
        go_wp2_with fail
        go_roundw
        case rel => exact ⟨k + 1, by omega, by go_num, by rw [HSN.out]; exact HR8.out, by rw [HSN.out]; exact HG8⟩
        case measure => simp [intOf]; omega
    · obtain rfl : k = N := by omega
      rw [HE5.out] at HRk HGk
      have HZF := Lib.hid (zrow_full HDL.out)
      simp only at HRk HGk
      rw [HZF.out] at HRk
      have HGE := HGk
      clear HGk
      go_wp2_with fail
      refine (gs_int HE6.out HGE.out).mono ?_
      rintro r V6 ⟨rfl, hg, hk6⟩
      have HC6 := Lib.hid hg
      have HD6 := Lib.hid (HRk.out.keep hk6 (.inr (by have := HPG.out; omega)))
      clear hg hk6
      go_wp2_with fail
      refine (gs_int HE7.out HC6.out).mono ?_
      rintro r V7 ⟨rfl, hg, hk7⟩
      have HC7 := Lib.hid hg
      have HD7 := Lib.hid (HD6.out.keep hk7 (.inr (by have := HPG.out; omega)))
      clear hg hk7
      obtain ⟨r4, f4⟩ := rowE_cell HC7.out.ev (k := 4) (show 4 < 10 by decide)
      generalize (Array.getD _ 4 undef) = y at r4
      obtain ⟨r5, f5⟩ := rowE_cell HC7.out.ev (k := 5) (show 5 < 10 by decide)
      generalize (Array.getD _ 5 undef) = y at r5
      have HG7 : Hid (GS w q p lo #[Value.int .i64 a1, .int .i64 a2, .int .i64 a3, .slice (some ⟨g, 0, none⟩) k k, .int .i64 a6, .int .i64 a7, .int .i64 0, .int .i64 0, .int .i64 0, .int .i64 0] t7 ((V7.setCell ⟨q + 1, 4, none⟩ (.int .i64 a6)).setCell ⟨q + 1, 5, none⟩ (.int .i64 a7))) := ((HC7.out.set 4 _).set 5 _)
      have HR7 : Hid (RowZ ((V7.setCell ⟨q + 1, 4, none⟩ (.int .i64 a6)).setCell ⟨q + 1, 5, none⟩ (.int .i64 a7)) g d) := ((HD7.out.keep (kp_cell (q + 1) 4 _ _) (.inr (by have := HPQ.out; have := HPG.out; omega))).keep (kp_cell (q + 1) 5 _ _) (.inr (by have := HPQ.out; have := HPG.out; omega)))
      go_wp2_with fail
      generalize ((V7.setCell ⟨q + 1, 4, none⟩ (.int .i64 a6)).setCell ⟨q + 1, 5, none⟩ (.int .i64 a7)) = W7 at HG7 HR7 ⊢
      clear r4 f4
      clear r5 f5
      refine (gs_int HE8.out HG7.out).mono ?_
      rintro r V8 ⟨rfl, hg, hk8⟩
      have HC8 := Lib.hid hg
      have HD8 := Lib.hid (HR7.out.keep hk8 (.inr (by have := HPG.out; omega)))
      clear hg hk8
      go_wp2_with fail
      refine (gs_int HE9.out HC8.out).mono ?_
      rintro r V9 ⟨rfl, hg, hk9⟩
      have HC9 := Lib.hid hg
      have HD9 := Lib.hid (HD8.out.keep hk9 (.inr (by have := HPG.out; omega)))
      clear hg hk9
      go_wp2_with fail
      refine (gs_int HE10.out HC9.out).mono ?_
      rintro r V10 ⟨rfl, hg, hk10⟩
      have HC10 := Lib.hid hg
      have HD10 := Lib.hid (HD9.out.keep hk10 (.inr (by have := HPG.out; omega)))
      clear hg hk10
      obtain ⟨r6, f6⟩ := rowE_cell HC10.out.ev (k := 6) (show 6 < 10 by decide)
      generalize (Array.getD _ 6 undef) = y at r6
      obtain ⟨r7, f7⟩ := rowE_cell HC10.out.ev (k := 7) (show 7 < 10 by decide)
      generalize (Array.getD _ 7 undef) = y at r7
      obtain ⟨r8, f8⟩ := rowE_cell HC10.out.ev (k := 8) (show 8 < 10 by decide)
      generalize (Array.getD _ 8 undef) = y at r8
      have HG10 : Hid (GS w q p lo #[Value.int .i64 a1, .int .i64 a2, .int .i64 a3, .slice (some ⟨g, 0, none⟩) k k, .int .i64 a6, .int .i64 a7, .int .i64 a8, .int .i64 a9, .int .i64 a10, .int .i64 0] t10 (((V10.setCell ⟨q + 1, 6, none⟩ (.int .i64 a8)).setCell ⟨q + 1, 7, none⟩ (.int .i64 a9)).setCell ⟨q + 1, 8, none⟩ (.int .i64 a10))) := (((HC10.out.set 6 _).set 7 _).set 8 _)
      have HR10 : Hid (RowZ (((V10.setCell ⟨q + 1, 6, none⟩ (.int .i64 a8)).setCell ⟨q + 1, 7, none⟩ (.int .i64 a9)).setCell ⟨q + 1, 8, none⟩ (.int .i64 a10)) g d) := (((HD10.out.keep (kp_cell (q + 1) 6 _ _) (.inr (by have := HPQ.out; have := HPG.out; omega))).keep (kp_cell (q + 1) 7 _ _) (.inr (by have := HPQ.out; have := HPG.out; omega))).keep (kp_cell (q + 1) 8 _ _) (.inr (by have := HPQ.out; have := HPG.out; omega)))
      go_wp2_with fail
      generalize (((V10.setCell ⟨q + 1, 6, none⟩ (.int .i64 a8)).setCell ⟨q + 1, 7, none⟩ (.int .i64 a9)).setCell ⟨q + 1, 8, none⟩ (.int .i64 a10)) = W10 at HG10 HR10 ⊢
      clear r6 f6
      clear r7 f7
      clear r8 f8
      refine (gs_int HE11.out HG10.out).mono ?_
      rintro r V11 ⟨rfl, hg, hk11⟩
      have HC11 := Lib.hid hg
      have HD11 := Lib.hid (HR10.out.keep hk11 (.inr (by have := HPG.out; omega)))
      clear hg hk11
      obtain ⟨r9, f9⟩ := rowE_cell HC11.out.ev (k := 9) (show 9 < 10 by decide)
      generalize (Array.getD _ 9 undef) = y at r9
      have HG11 : Hid (GS w q p lo #[Value.int .i64 a1, .int .i64 a2, .int .i64 a3, .slice (some ⟨g, 0, none⟩) k k, .int .i64 a6, .int .i64 a7, .int .i64 a8, .int .i64 a9, .int .i64 a10, .int .i64 a11] t11 (V11.setCell ⟨q + 1, 9, none⟩ (.int .i64 a11))) := (HC11.out.set 9 _)
      have HR11 : Hid (RowZ (V11.setCell ⟨q + 1, 9, none⟩ (.int .i64 a11)) g d) := (HD11.out.keep (kp_cell (q + 1) 9 _ _) (.inr (by have := HPQ.out; have := HPG.out; omega)))
      go_wp2_with fail
      generalize (V11.setCell ⟨q + 1, 9, none⟩ (.int .i64 a11)) = W11 at HG11 HR11 ⊢
      clear r9 f9
      refine (done_any t11.1 t11.2 _ HG11.out.rd).mono ?_
      rintro r V12 ⟨rfl, rfl⟩
      generalize Pk.dne t11.1 t11.2 = er at *
      have hq5 := HG11.out.rs
      have hb4 := HG11.out.ev
      have HOW : Hid (OwnI .i64 3 (q + 1) W11.heap.size W11 (.slice (some ⟨g, 0, none⟩) k k) d) := HR11.out.own (by have := HPQ.out; have := HPG.out; omega) HDL.out (by unfold maxLen; omega)
      have HK := Lib.hid HG11.out.kp
      have HQG : Hid (q + 1 ≤ g) := by
        show _ ≤ _
        have := HPQ.out
        have := HPG.out
        omega
      obtain ⟨b0, g0⟩ := rowE_cell hq5 (k := 0) (show 0 < 10 by decide)
      obtain ⟨b1, g1⟩ := rowE_cell hq5 (k := 1) (show 1 < 10 by decide)
      obtain ⟨b2, g2⟩ := rowE_cell hq5 (k := 2) (show 2 < 10 by decide)
      obtain ⟨b3, g3⟩ := rowE_cell hq5 (k := 3) (show 3 < 10 by decide)
      obtain ⟨b4, g4⟩ := rowE_cell hq5 (k := 4) (show 4 < 10 by decide)
      obtain ⟨b5, g5⟩ := rowE_cell hq5 (k := 5) (show 5 < 10 by decide)
      obtain ⟨b6, g6⟩ := rowE_cell hq5 (k := 6) (show 6 < 10 by decide)
      obtain ⟨b7, g7⟩ := rowE_cell hq5 (k := 7) (show 7 < 10 by decide)
      obtain ⟨b8, g8⟩ := rowE_cell hq5 (k := 8) (show 8 < 10 by decide)
      obtain ⟨b9, g9⟩ := rowE_cell hq5 (k := 9) (show 9 < 10 by decide)
      generalize (Array.getD _ 0 undef) = z0 at b0
      generalize (Array.getD _ 1 undef) = z1 at b1
      generalize (Array.getD _ 2 undef) = z2 at b2
      generalize (Array.getD _ 3 undef) = z3 at b3
      generalize (Array.getD _ 4 undef) = z4 at b4
      generalize (Array.getD _ 5 undef) = z5 at b5
      generalize (Array.getD _ 6 undef) = z6 at b6
      generalize (Array.getD _ 7 undef) = z7 at b7
      generalize (Array.getD _ 8 undef) = z8 at b8
      generalize (Array.getD _ 9 undef) = z9 at b9
      have HQ5 := Lib.hid hq5
      have HB4 := Lib.hid hb4
      clear hq5 hb4
      by_cases he : er = 0
      · have hb : (er != 0) = false := by simp [he]
        rw [if_pos he] at HG
        clear he
        have hb4 := HB4.out
        obtain ⟨x0, _⟩ := rowE_cell hb4 (k := 0) (show 0 < 10 by decide)
        change _ = some (Value.int .i64 a1) at x0
        obtain ⟨x1, _⟩ := rowE_cell hb4 (k := 1) (show 1 < 10 by decide)
        change _ = some (Value.int .i64 a2) at x1
        obtain ⟨x2, _⟩ := rowE_cell hb4 (k := 2) (show 2 < 10 by decide)
        change _ = some (Value.int .i64 a3) at x2
        obtain ⟨x3, _⟩ := rowE_cell hb4 (k := 3) (show 3 < 10 by decide)
        change _ = some (Value.slice (some ⟨g, 0, none⟩) k k) at x3
        obtain ⟨x4, _⟩ := rowE_cell hb4 (k := 4) (show 4 < 10 by decide)
        change _ = some (Value.int .i64 a6) at x4
        obtain ⟨x5, _⟩ := rowE_cell hb4 (k := 5) (show 5 < 10 by decide)
        change _ = some (Value.int .i64 a7) at x5
        obtain ⟨x6, _⟩ := rowE_cell hb4 (k := 6) (show 6 < 10 by decide)
        change _ = some (Value.int .i64 a8) at x6
        obtain ⟨x7, _⟩ := rowE_cell hb4 (k := 7) (show 7 < 10 by decide)
        change _ = some (Value.int .i64 a9) at x7
        obtain ⟨x8, _⟩ := rowE_cell hb4 (k := 8) (show 8 < 10 by decide)
        change _ = some (Value.int .i64 a10) at x8
        obtain ⟨x9, _⟩ := rowE_cell hb4 (k := 9) (show 9 < 10 by decide)
        change _ = some (Value.int .i64 a11) at x9
        clear hb4
        go_wp2_with fail
        obtain ⟨hst, hsk⟩ := store_ten HQ5.out rfl (Value.int .i64 a1) (Value.int .i64 a2) (Value.int .i64 a3) (Value.slice (some ⟨g, 0, none⟩) k k) (Value.int .i64 a6) (Value.int .i64 a7) (Value.int .i64 a8) (Value.int .i64 a9) (Value.int .i64 a10) (Value.int .i64 a11)
        generalize hF : ((((((((((W11.setCell ⟨q, 0, none⟩ (Value.int .i64 a1)).setCell ⟨q, 1, none⟩ (Value.int .i64 a2)).setCell ⟨q, 2, none⟩ (Value.int .i64 a3)).setCell ⟨q, 3, none⟩ (Value.slice (some ⟨g, 0, none⟩) k k)).setCell ⟨q, 4, none⟩ (Value.int .i64 a6)).setCell ⟨q, 5, none⟩ (Value.int .i64 a7)).setCell ⟨q, 6, none⟩ (Value.int .i64 a8)).setCell ⟨q, 7, none⟩ (Value.int .i64 a9)).setCell ⟨q, 8, none⟩ (Value.int .i64 a10)).setCell ⟨q, 9, none⟩ (Value.int .i64 a11)) = F at hst hsk ⊢
        clear hF
        obtain ⟨e0, _⟩ := rowE_cell hst (k := 0) (show 0 < 10 by decide)
        change _ = some (Value.int .i64 a1) at e0
        obtain ⟨e1, _⟩ := rowE_cell hst (k := 1) (show 1 < 10 by decide)
        change _ = some (Value.int .i64 a2) at e1
        obtain ⟨e2, _⟩ := rowE_cell hst (k := 2) (show 2 < 10 by decide)
        change _ = some (Value.int .i64 a3) at e2
        obtain ⟨e3, _⟩ := rowE_cell hst (k := 3) (show 3 < 10 by decide)
        change _ = some (Value.slice (some ⟨g, 0, none⟩) k k) at e3
        obtain ⟨e4, _⟩ := rowE_cell hst (k := 4) (show 4 < 10 by decide)
        change _ = some (Value.int .i64 a6) at e4
        obtain ⟨e5, _⟩ := rowE_cell hst (k := 5) (show 5 < 10 by decide)
        change _ = some (Value.int .i64 a7) at e5
        obtain ⟨e6, _⟩ := rowE_cell hst (k := 6) (show 6 < 10 by decide)
        change _ = some (Value.int .i64 a8) at e6
        obtain ⟨e7, _⟩ := rowE_cell hst (k := 7) (show 7 < 10 by decide)
        change _ = some (Value.int .i64 a9) at e7
        obtain ⟨e8, _⟩ := rowE_cell hst (k := 8) (show 8 < 10 by decide)
        change _ = some (Value.int .i64 a10) at e8
        obtain ⟨e9, _⟩ := rowE_cell hst (k := 9) (show 9 < 10 by decide)
        change _ = some (Value.int .i64 a11) at e9
        try simp only [Exit.inBlock, Exit.then]
        refine bodyPost_ret (by simp [results, Try.results16, go_sem, e0, e1, e2, e3, e4, e5, e6, e7, e8, e9]; try rfl) rfl ?_
        rw [HG.out]
        refine ⟨.slice (some ⟨g, 0, none⟩) k k, rfl, ?_, ?_⟩
        · exact ((HOW.out.keep hsk (fun b h1 h2 => .inr h1)).wide (by have := HQE.out; omega) (Nat.le_refl _)).there
        · exact HK.out.step hsk (fun j h1 h2 => .inl (by have := HQE.out; omega))
      · have hb : (er != 0) = true := bne_iff_ne.2 he
        rw [if_neg he] at HG
        clear he
        go_wp2_with fail
        obtain ⟨hst, hsk⟩ := store_ten HQ5.out rfl (Value.int .i64 0) (Value.int .i64 0) (Value.int .i64 0) (Value.slice none 0 0) (Value.int .i64 0) (Value.int .i64 0) (Value.int .i64 0) (Value.int .i64 0) (Value.int .i64 0) (Value.int .i64 0)
        generalize hF : ((((((((((W11.setCell ⟨q, 0, none⟩ (Value.int .i64 0)).setCell ⟨q, 1, none⟩ (Value.int .i64 0)).setCell ⟨q, 2, none⟩ (Value.int .i64 0)).setCell ⟨q, 3, none⟩ (Value.slice none 0 0)).setCell ⟨q, 4, none⟩ (Value.int .i64 0)).setCell ⟨q, 5, none⟩ (Value.int .i64 0)).setCell ⟨q, 6, none⟩ (Value.int .i64 0)).setCell ⟨q, 7, none⟩ (Value.int .i64 0)).setCell ⟨q, 8, none⟩ (Value.int .i64 0)).setCell ⟨q, 9, none⟩ (Value.int .i64 0)) = F at hst hsk ⊢
        clear hF
        obtain ⟨e0, _⟩ := rowE_cell hst (k := 0) (show 0 < 10 by decide)
        change _ = some (Value.int .i64 0) at e0
        obtain ⟨e1, _⟩ := rowE_cell hst (k := 1) (show 1 < 10 by decide)
        change _ = some (Value.int .i64 0) at e1
        obtain ⟨e2, _⟩ := rowE_cell hst (k := 2) (show 2 < 10 by decide)
        change _ = some (Value.int .i64 0) at e2
        obtain ⟨e3, _⟩ := rowE_cell hst (k := 3) (show 3 < 10 by decide)
        change _ = some (Value.slice none 0 0) at e3
        obtain ⟨e4, _⟩ := rowE_cell hst (k := 4) (show 4 < 10 by decide)
        change _ = some (Value.int .i64 0) at e4
        obtain ⟨e5, _⟩ := rowE_cell hst (k := 5) (show 5 < 10 by decide)
        change _ = some (Value.int .i64 0) at e5
        obtain ⟨e6, _⟩ := rowE_cell hst (k := 6) (show 6 < 10 by decide)
        change _ = some (Value.int .i64 0) at e6
        obtain ⟨e7, _⟩ := rowE_cell hst (k := 7) (show 7 < 10 by decide)
        change _ = some (Value.int .i64 0) at e7
        obtain ⟨e8, _⟩ := rowE_cell hst (k := 8) (show 8 < 10 by decide)
        change _ = some (Value.int .i64 0) at e8
        obtain ⟨e9, _⟩ := rowE_cell hst (k := 9) (show 9 < 10 by decide)
        change _ = some (Value.int .i64 0) at e9
        try simp only [Exit.inBlock, Exit.then]
        refine bodyPost_ret (by simp [results, Try.results16, go_sem, e0, e1, e2, e3, e4, e5, e6, e7, e8, e9]; try rfl) rfl ?_
        rw [HG.out]
        refine ⟨.slice none 0 0, rfl, OwnI.nil _ _ _ _ _, ?_⟩
        exact HK.out.step hsk (fun j h1 h2 => .inl (by have := HQE.out; omega))

end Go.Proofs.Ytnboeagallkooaa
