/-
  Declarations, plainly: what is wrong with them, which field there is, what fits; and how they stand in memory. No program is named here.
-/
import Derived.Test.YtgokhagbknlfaaaRep
namespace Go.Proofs.Ytgokhagbknlfaaa
open Go.RowKit

/-- A move. -/
structure Mv where
  f : Int
  t : Int
  n : Int
  l : Int
deriving DecidableEq

/-- A field. -/
structure Fl where
  k : Int
  p : Int
  b : Bool
  ms : List Mv
deriving DecidableEq

/-- A projection. -/
structure Pj where
  t : Int
  f : Int
  g : Int
  b : Int
  m : Int
deriving DecidableEq

/-- Declarations. -/
structure Dc where
  ts : List (List Fl)
  ps : List Pj
deriving DecidableEq

namespace Sc

def z : Fl := ⟨0, 0, false, []⟩
def zm : Mv := ⟨0, 0, 0, 0⟩
def zp : Pj := ⟨0, 0, 0, 0, 0⟩

def I64 (n : Int) : Prop := -9223372036854775808 ≤ n ∧ n ≤ 9223372036854775807

def FitsM (m : Mv) : Prop := I64 m.f ∧ I64 m.t ∧ I64 m.n ∧ I64 m.l
def FitsF (f : Fl) : Prop := I64 f.k ∧ I64 f.p ∧ ∀ m ∈ f.ms, FitsM m
def FitsP (p : Pj) : Prop := I64 p.t ∧ I64 p.f ∧ I64 p.g ∧ I64 p.b ∧ I64 p.m
def Fits (d : Dc) : Prop := (∀ t ∈ d.ts, ∀ f ∈ t, FitsF f) ∧ ∀ p ∈ d.ps, FitsP p

/-- Not longer than the laws go through. -/
def Short (d : Dc) : Prop := d.ts.length ≤ 20 ∧ d.ps.length ≤ 40 ∧ ∀ t ∈ d.ts, t.length ≤ 20 ∧ ∀ f ∈ t, f.ms.length ≤ 40

/-- Longer than the laws go through. -/
def longF (f : Fl) : Bool := decide (40 < f.ms.length)
def longT (t : List Fl) : Bool := decide (20 < t.length) || t.any longF
def long (d : Dc) : Bool := decide (20 < d.ts.length) || decide (40 < d.ps.length) || d.ts.any longT

theorem long_no {d : Dc} (h : long d = false) : Short d := by
  unfold long at h
  simp only [Bool.or_eq_false_iff, decide_eq_false_iff_not, List.any_eq_false, Nat.not_lt] at h
  obtain ⟨⟨h1, h2⟩, h3⟩ := h
  refine ⟨h1, h2, fun t ht => ?_⟩
  have h4 := h3 t ht
  unfold longT at h4
  simp only [Bool.not_eq_true, Bool.or_eq_false_iff, decide_eq_false_iff_not, List.any_eq_false, Nat.not_lt] at h4
  refine ⟨h4.1, fun f hf => ?_⟩
  have h5 := h4.2 f hf
  unfold longF at h5
  simpa using h5

/-- The first that is not 0. -/
def first : List Int → Int
  | [] => 0
  | x :: l => if x = 0 then first l else x

theorem first_at : ∀ {l : List Int} {i : Nat}, (∀ j, j < i → l.getD j 0 = 0) → l.getD i 0 ≠ 0 → first l = l.getD i 0
  | [], i, _, h => by simp at h
  | x :: l, 0, _, h => by
    have : x ≠ 0 := by simpa using h
    simp [first, this]
  | x :: l, i + 1, h0, h => by
    have hx : x = 0 := by simpa using h0 0 (by omega)
    have := first_at (l := l) (i := i) (fun j hj => by simpa using h0 (j + 1) (by omega)) (by simpa using h)
    simpa [first, hx] using this

theorem first_none : ∀ {l : List Int}, (∀ j, j < l.length → l.getD j 0 = 0) → first l = 0
  | [], _ => rfl
  | x :: l, h => by
    have hx : x = 0 := by simpa using h 0 (by simp)
    rw [first, if_pos hx]
    exact first_none fun j hj => by simpa using h (j + 1) (by simpa using hj)

theorem first_zero : ∀ {l : List Int}, first l = 0 → ∀ x ∈ l, x = 0
  | [], _, x, hx => by cases hx
  | y :: l, h, x, hx => by
    unfold first at h
    split at h
    · rename_i hy
      rcases List.mem_cons.1 hx with rfl | hx
      · exact hy
      · exact first_zero h x hx
    · rename_i hy
      exact absurd h hy

theorem first_all {l : List Int} (h : ∀ x ∈ l, x = 0) : first l = 0 := first_none fun j hj => h _ (by simp [List.getD, hj])

theorem getD_map {α : Type} (g : α → Int) (l : List α) (x : α) {i : Nat} (hi : i < l.length) : (l.map g).getD i 0 = g (l.getD i x) := by simp [List.getD, hi]

/-- A loop through a row that answers the first wrong thing: it came to none up to k. -/
def Upto {α : Type} (g : α → Int) (l : List α) (k : Nat) : Prop := ∀ j x, j < k → l[j]? = some x → g x = 0
theorem Upto.zero {α : Type} (g : α → Int) (l : List α) : Upto g l 0 := fun j _ hj => by omega
theorem Upto.step {α : Type} {g : α → Int} {l : List α} {k : Nat} {x : α} (h : Upto g l k) (hx : l[k]? = some x) (h0 : g x = 0) : Upto g l (k + 1) := fun j y hj hy => by
  by_cases he : j = k
  · subst he
    rw [hx] at hy
    cases hy
    exact h0
  · exact h j y (by omega) hy
theorem Upto.done {α : Type} {g : α → Int} {l : List α} (h : Upto g l l.length) : first (l.map g) = 0 := first_all fun x hx => by
  obtain ⟨y, hy, rfl⟩ := List.mem_map.1 hx
  obtain ⟨i, hi, rfl⟩ := List.getElem_of_mem hy
  exact h i _ hi (List.getElem?_eq_getElem hi)
theorem Upto.stop {α : Type} {g : α → Int} {l : List α} {k : Nat} {x : α} (h : Upto g l k) (hx : l[k]? = some x) (h0 : g x ≠ 0) : first (l.map g) = g x := by
  have hk := (List.getElem?_eq_some_iff.1 hx).1
  have e : (l.map g).getD k 0 = g x := by simp [List.getD, hx]
  rw [← e]
  exact first_at (fun j hj => by
    have hj2 : j < l.length := by omega
    have := h j l[j] hj (List.getElem?_eq_getElem hj2)
    simp [List.getD, hj2, this]) (by rw [e]; exact h0)

/-- .. and one that asks whether there is any. -/
def None {α : Type} (g : α → Bool) (l : List α) (k : Nat) : Prop := ∀ j x, j < k → l[j]? = some x → g x = false
theorem None.zero {α : Type} (g : α → Bool) (l : List α) : None g l 0 := fun j _ hj => by omega
theorem None.step {α : Type} {g : α → Bool} {l : List α} {k : Nat} {x : α} (h : None g l k) (hx : l[k]? = some x) (h0 : g x = false) : None g l (k + 1) := fun j y hj hy => by
  by_cases he : j = k
  · subst he
    rw [hx] at hy
    cases hy
    exact h0
  · exact h j y (by omega) hy
theorem None.done {α : Type} {g : α → Bool} {l : List α} (h : None g l l.length) : l.any g = false := by
  rw [List.any_eq_false]
  intro x hx
  obtain ⟨i, hi, rfl⟩ := List.getElem_of_mem hx
  simp [h i _ hi (List.getElem?_eq_getElem hi)]
theorem any_stop {α : Type} {g : α → Bool} {l : List α} {k : Nat} {x : α} (hx : l[k]? = some x) (h0 : g x = true) : l.any g = true :=
  List.any_eq_true.2 ⟨x, List.mem_of_getElem? hx, h0⟩

/-- A field's kind; 0: there is none. -/
def kind (t : List Fl) (i : Int) : Int := if i < 0 ∨ (t.length : Int) ≤ i then 0 else (t.getD i.toNat z).k

theorem kind_in {t : List Fl} {i : Nat} {f : Fl} (h : t[i]? = some f) : kind t (i : Int) = f.k := by
  have hi := (List.getElem?_eq_some_iff.1 h).1
  unfold kind
  rw [if_neg (by omega), Int.toNat_natCast]
  simp [List.getD, h]
theorem kind_out {t : List Fl} {i : Int} (h : i < 0 ∨ (t.length : Int) ≤ i) : kind t i = 0 := if_pos h

/-- Has a field too many moves, or too few? -/
def manyF (f : Fl) : Bool := (f.k == 4 && (f.ms.length == 0 || decide (16 < f.ms.length))) || (f.k != 4 && f.ms.length != 0)
def manyT (t : List Fl) : Bool := t.length == 0 || decide (8 < t.length) || t.any manyF
def many (d : Dc) : Bool := d.ts.length == 0 || decide (8 < d.ts.length) || decide (8 < d.ps.length) || d.ts.any manyT

/-- Is a move's form wrong? Is its need? -/
def badM (m : Mv) : Bool := decide (m.f < 0) || decide (m.t < 0) || (m.n == -1 && m.l != 0)
def badN (t : List Fl) (m : Mv) : Bool := m.n != -1 && kind t m.n != 1
def okP (f : Fl) : Bool := f.p == 1 || (f.p == 2 && f.k != 1) || (f.p == 3 && f.k == 2)

/-- What is wrong with a field. -/
def one (t : List Fl) (f : Fl) : Int :=
  if f.k < 1 ∨ 4 < f.k then 2
  else if okP f = false ∨ (f.b = true ∧ f.k ≠ 1) then 1
  else if f.ms.any badM = true then 1
  else if f.ms.any (badN t) = true then 8
  else 0

/-- Which field there is. -/
def field (d : Dc) (t f : Int) : Option Fl :=
  if t < 0 ∨ (d.ts.length : Int) ≤ t ∨ f < 0 then none else (d.ts.getD t.toNat [])[f.toNat]?

/-- What is wrong with a projection. -/
def proj (d : Dc) (p : Pj) : Int :=
  if field d p.t p.f = none then 8
  else if (p.g = 3 ∧ kind (d.ts.getD p.t.toNat []) p.b ≠ 2) ∨ (p.g ≠ 3 ∧ p.b ≠ 0) then 8
  else if p.g < 1 ∨ 3 < p.g ∨ p.m < 1 ∨ 5 < p.m then 2
  else 0

def firstT (t : List Fl) : Int := first (t.map (one t))
def fieldsE (d : Dc) : Int := first (d.ts.map firstT)
def projsE (d : Dc) : Int := first (d.ps.map (proj d))

/-- What is wrong with declarations. -/
def check (d : Dc) : Int := if many d = true then 3 else if fieldsE d ≠ 0 then fieldsE d else projsE d

/-- Whether an operation fits. -/
def fits (d : Dc) (t f op arg : Int) : Int :=
  match field d t f with
  | none => 8
  | some x =>
    if op = 1 then (if x.k ≠ 1 then 2 else if arg = 0 then 1 else 0)
    else if op = 2 then (if x.k ≠ 2 then 2 else 0)
    else if op = 3 ∨ op = 4 then (if x.k ≠ 3 then 2 else 0)
    else if op = 5 then (if x.k ≠ 4 then 2 else if arg < 0 ∨ (x.ms.length : Int) ≤ arg then 1 else 0)
    else 2

theorem field_some {d : Dc} {t f : Nat} {T : List Fl} {x : Fl} (h1 : d.ts[t]? = some T) (h2 : T[f]? = some x) : field d (t : Int) (f : Int) = some x := by
  have ht := (List.getElem?_eq_some_iff.1 h1).1
  unfold field
  rw [if_neg (by omega), Int.toNat_natCast, Int.toNat_natCast]
  simp [List.getD, h1, h2]
theorem field_out {d : Dc} {t f : Int} (h : t < 0 ∨ (d.ts.length : Int) ≤ t ∨ f < 0) : field d t f = none := if_pos h
theorem field_end {d : Dc} {t : Nat} {f : Int} {T : List Fl} (h1 : d.ts[t]? = some T) (h : (T.length : Int) ≤ f) : field d (t : Int) f = none := by
  have ht := (List.getElem?_eq_some_iff.1 h1).1
  unfold field
  split
  · rfl
  · rw [Int.toNat_natCast]
    simp [List.getD, h1]
    omega

theorem field_inv {d : Dc} {t f : Int} {x : Fl} (h : field d t f = some x) : ∃ (n m : Nat) (T : List Fl), t = n ∧ f = m ∧ d.ts[n]? = some T ∧ T[m]? = some x := by
  unfold field at h
  split at h
  · cases h
  · rename_i hn
    have hl : t.toNat < d.ts.length := by omega
    refine ⟨t.toNat, f.toNat, d.ts[t.toNat], by omega, by omega, List.getElem?_eq_getElem hl, ?_⟩
    simpa [List.getD, hl] using h

end Sc

/-- A move in memory; a field; a type; a projection. -/
def mvE : Rp Mv := fun _ _ xs m => xs = [.int .i64 m.f, .int .i64 m.t, .int .i64 m.n, .int .i64 m.l]
def flE : Rp Fl := fun w S xs f => ∃ mv, xs = [.int .i64 f.k, .int .i64 f.p, .bool f.b, mv] ∧ RdS mvE 4 w S mv f.ms
def tyE : Rp (List Fl) := fun w S xs t => ∃ fv, xs = [fv] ∧ RdS flE 4 w S fv t
def pjE : Rp Pj := fun _ _ xs p => xs = [.int .i64 p.t, .int .i64 p.f, .int .i64 p.g, .int .i64 p.b, .int .i64 p.m]

theorem mvE_good : mvE.Good := ⟨fun h _ _ => h, fun h _ => h⟩
theorem pjE_good : pjE.Good := ⟨fun h _ _ => h, fun h _ => h⟩
theorem flE_good : flE.Good := ⟨fun h hk hd => by
    obtain ⟨mv, rfl, h⟩ := h
    exact ⟨mv, rfl, h.keep mvE_good hk hd⟩, fun h hd => by
    obtain ⟨mv, rfl, h⟩ := h
    exact ⟨mv, rfl, h.wide mvE_good (by decide) hd⟩⟩
theorem tyE_good : tyE.Good := ⟨fun h hk hd => by
    obtain ⟨mv, rfl, h⟩ := h
    exact ⟨mv, rfl, h.keep flE_good hk hd⟩, fun h hd => by
    obtain ⟨mv, rfl, h⟩ := h
    exact ⟨mv, rfl, h.wide flE_good (by decide) hd⟩⟩

/-- Declarations in memory. -/
structure RdD (w : World) (S : Nat → Prop) (tv pv : Value) (d : Dc) : Prop where
  t : RdS tyE 1 w S tv d.ts
  p : RdS pjE 5 w S pv d.ps

theorem RdD.keep {w w' : World} {S : Nat → Prop} {tv pv : Value} {d : Dc} {lo hi : Nat} (h : RdD w S tv pv d) (hk : Kp lo hi w w') (hd : ∀ b, S b → b < lo ∨ hi ≤ b) : RdD w' S tv pv d := ⟨h.t.keep tyE_good hk hd, h.p.keep pjE_good hk hd⟩
theorem RdD.keep0 {w w' : World} {S : Nat → Prop} {tv pv : Value} {d : Dc} (h : RdD w S tv pv d) (hk : Kp 0 0 w w') : RdD w' S tv pv d := h.keep hk fun _ _ => .inr (Nat.zero_le _)
theorem RdD.wide {w : World} {S T : Nat → Prop} {tv pv : Value} {d : Dc} (h : RdD w S tv pv d) (hd : ∀ b, b < w.heap.size → S b → T b) : RdD w T tv pv d := ⟨h.t.wide tyE_good (by decide) hd, h.p.wide pjE_good (by decide) hd⟩

/-- A row's cells, thing by thing: moves, fields, types, projections. -/
theorem mv_at {w : World} {S : Nat → Prop} {ao : Option Addr} {l : List Mv} (h : ClS mvE 4 w S ao l) {i : Nat} {m : Mv} (hi : l[i]? = some m) :
    ∃ b o, ao = some ⟨b, o, none⟩ ∧ S b ∧ w.cell? ⟨b, o + i * 4, none⟩ = some (.int .i64 m.f) ∧ w.cell? ⟨b, o + i * 4 + 1, none⟩ = some (.int .i64 m.t) ∧ w.cell? ⟨b, o + i * 4 + 2, none⟩ = some (.int .i64 m.n) ∧ w.cell? ⟨b, o + i * 4 + 3, none⟩ = some (.int .i64 m.l) := by
  obtain ⟨b, o, rfl, hb, hx⟩ := h (by have := (List.getElem?_eq_some_iff.1 hi).1; omega)
  obtain ⟨xs, hl, hc, rfl⟩ := hx i m hi
  exact ⟨b, o, rfl, hb, hc 0 _ rfl, hc 1 _ rfl, hc 2 _ rfl, hc 3 _ rfl⟩
theorem fl_at {w : World} {S : Nat → Prop} {ao : Option Addr} {l : List Fl} (h : ClS flE 4 w S ao l) {i : Nat} {f : Fl} (hi : l[i]? = some f) :
    ∃ b o mo mc, ao = some ⟨b, o, none⟩ ∧ S b ∧ w.cell? ⟨b, o + i * 4, none⟩ = some (.int .i64 f.k) ∧ w.cell? ⟨b, o + i * 4 + 1, none⟩ = some (.int .i64 f.p) ∧ w.cell? ⟨b, o + i * 4 + 2, none⟩ = some (.bool f.b) ∧ w.cell? ⟨b, o + i * 4 + 3, none⟩ = some (.slice mo f.ms.length mc) ∧ f.ms.length ≤ mc ∧ mc ≤ 9223372036854775807 ∧ RdS mvE 4 w S (.slice mo f.ms.length mc) f.ms := by
  obtain ⟨b, o, rfl, hb, hx⟩ := h (by have := (List.getElem?_eq_some_iff.1 hi).1; omega)
  obtain ⟨xs, hl, hc, mv, rfl, hm⟩ := hx i f hi
  obtain ⟨mo, mc, rfl, h1, h2, _⟩ := hm.open
  exact ⟨b, o, mo, mc, rfl, hb, hc 0 _ rfl, hc 1 _ rfl, hc 2 _ rfl, hc 3 _ rfl, h1, h2, hm⟩
theorem ty_at {w : World} {S : Nat → Prop} {ao : Option Addr} {l : List (List Fl)} (h : ClS tyE 1 w S ao l) {i : Nat} {t : List Fl} (hi : l[i]? = some t) :
    ∃ b o fo fc, ao = some ⟨b, o, none⟩ ∧ S b ∧ w.cell? ⟨b, o + i, none⟩ = some (.slice fo t.length fc) ∧ t.length ≤ fc ∧ fc ≤ 9223372036854775807 ∧ RdS flE 4 w S (.slice fo t.length fc) t := by
  obtain ⟨b, o, rfl, hb, hx⟩ := h (by have := (List.getElem?_eq_some_iff.1 hi).1; omega)
  obtain ⟨xs, hl, hc, mv, rfl, hm⟩ := hx i t hi
  obtain ⟨mo, mc, rfl, h1, h2, _⟩ := hm.open
  refine ⟨b, o, mo, mc, rfl, hb, ?_, h1, h2, hm⟩
  have := hc 0 _ rfl
  simpa using this
theorem pj_at {w : World} {S : Nat → Prop} {ao : Option Addr} {l : List Pj} (h : ClS pjE 5 w S ao l) {i : Nat} {m : Pj} (hi : l[i]? = some m) :
    ∃ b o, ao = some ⟨b, o, none⟩ ∧ S b ∧ w.cell? ⟨b, o + i * 5, none⟩ = some (.int .i64 m.t) ∧ w.cell? ⟨b, o + i * 5 + 1, none⟩ = some (.int .i64 m.f) ∧ w.cell? ⟨b, o + i * 5 + 2, none⟩ = some (.int .i64 m.g) ∧ w.cell? ⟨b, o + i * 5 + 3, none⟩ = some (.int .i64 m.b) ∧ w.cell? ⟨b, o + i * 5 + 4, none⟩ = some (.int .i64 m.m) := by
  obtain ⟨b, o, rfl, hb, hx⟩ := h (by have := (List.getElem?_eq_some_iff.1 hi).1; omega)
  obtain ⟨xs, hl, hc, rfl⟩ := hx i m hi
  exact ⟨b, o, rfl, hb, hc 0 _ rfl, hc 1 _ rfl, hc 2 _ rfl, hc 3 _ rfl, hc 4 _ rfl⟩

end Go.Proofs.Ytgokhagbknlfaaa
