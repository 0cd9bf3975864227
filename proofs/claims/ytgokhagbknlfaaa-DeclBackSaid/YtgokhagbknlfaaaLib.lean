/-
  Words on memory that the walks of this seat share: what a call leaves as it was, what a slice reads as, what a call owns. No program is named here.
-/
import Derived.WalkKit
import Derived.Deep.QuietTactic
import Derived.BigQuiet
import Derived.Lib.Hide
import Derived.WalkLawsBesides
import Derived.WalkSpells
import Derived.Laws.AppendOwnNone
import Derived.Lib.AppendZeros
namespace Go.Proofs.Ytgokhagbknlfaaa
open Go.RowKit

/-- From w to w' nothing that was there turns, but for blocks from lo on and below hi. -/
structure Kp (lo hi : Nat) (w w' : World) : Prop where
  os : w'.os = w.os
  tape : w'.tape = w.tape
  output : w'.output = w.output
  size : w.heap.size ≤ w'.heap.size
  block : ∀ k, k < w.heap.size → (k < lo ∨ hi ≤ k) → w'.heap[k]? = w.heap[k]?

theorem Kp.refl (lo hi : Nat) (w : World) : Kp lo hi w w := ⟨rfl, rfl, rfl, Nat.le_refl _, fun _ _ _ => rfl⟩

/-- Two steps: what the second turns was not there at first, or the first interval has it. -/
theorem Kp.step {lo hi lo' hi' : Nat} {a b c : World} (h : Kp lo hi a b) (k : Kp lo' hi' b c) (hd : ∀ j, lo' ≤ j → j < hi' → a.heap.size ≤ j ∨ (lo ≤ j ∧ j < hi)) : Kp lo hi a c :=
  ⟨k.os.trans h.os, k.tape.trans h.tape, k.output.trans h.output, Nat.le_trans h.size k.size, fun i hi hc => by
    have hs := h.size
    refine (k.block i (by omega) ?_).trans (h.block i hi hc)
    by_cases h1 : i < lo'
    · exact .inl h1
    · by_cases h2 : hi' ≤ i
      · exact .inr h2
      · have := hd i (by omega) (by omega)
        omega⟩

theorem Kp.trans {lo hi : Nat} {a b c : World} (h : Kp lo hi a b) (k : Kp lo hi b c) : Kp lo hi a c := h.step k fun _ h1 h2 => .inr ⟨h1, h2⟩

/-- A step that turns nothing. -/
theorem Kp.pure {lo hi : Nat} {a b c : World} (h : Kp lo hi a b) (k : Kp 0 0 b c) : Kp lo hi a c := h.step k fun _ _ h2 => by omega

theorem Kp.any {lo hi : Nat} {a b : World} (h : Kp 0 0 a b) : Kp lo hi a b := (Kp.refl lo hi a).pure h

theorem Kp.of_below {w w' : World} (h : Below w.heap.size w w') : Kp 0 0 w w' := ⟨h.os, h.tape, h.output, h.size, fun k hk _ => h.block k hk⟩

theorem Kp.below {w w' : World} (h : Kp 0 0 w w') : Below w.heap.size w w' := ⟨h.os, h.tape, h.output, h.size, fun k hk => h.block k hk (.inr (Nat.zero_le _))⟩

/-- Below B nothing turns, where the interval lies from B on. -/
theorem Kp.belowB {lo hi B : Nat} {w w' : World} (h : Kp lo hi w w') (hB : B ≤ w.heap.size) (hl : B ≤ lo ∨ hi ≤ lo) : Below B w w' :=
  ⟨h.os, h.tape, h.output, h.size, fun k hk => h.block k (by omega) (by omega)⟩

theorem Kp.drew {lo hi : Nat} {a w : World} (h : Kp lo hi a w) : Kp lo hi a w.drew := ⟨h.os, h.tape, h.output, h.size, h.block⟩
theorem Kp.drewN {lo hi : Nat} {a w : World} (h : Kp lo hi a w) (n : Nat) : Kp lo hi a (w.drewN n) := ⟨h.os, h.tape, h.output, h.size, h.block⟩

theorem Kp.alloc {lo hi : Nat} {a w : World} (h : Kp lo hi a w) (o : Obj) : Kp lo hi a (w.alloc o) :=
  h.pure ⟨rfl, rfl, rfl, by simp, fun k hk _ => Below.heap_alloc _ _ _ hk⟩

theorem Kp.setCell {lo hi : Nat} {a w : World} (h : Kp lo hi a w) {p : Addr} (hp : a.heap.size ≤ p.block ∨ (lo ≤ p.block ∧ p.block < hi)) (u : Value) : Kp lo hi a (w.setCell p u) :=
  h.step (lo' := p.block) (hi' := p.block + 1) ⟨rfl, rfl, rfl, by simp [World.setCell], fun k _ hc => Below.heap_setCell _ _ _ _ (by omega)⟩ fun j h1 h2 => by
    have : j = p.block := by omega
    subst this
    exact hp

theorem Kp.grown {lo hi : Nat} {a w w' : World} {row : Option Nat} (h : Kp lo hi a w) (hg : w.grownBy w' row) (hr : ∀ k, row = some k → a.heap.size ≤ k ∨ (lo ≤ k ∧ k < hi)) : Kp lo hi a w' := by
  cases row with
  | none => exact h.pure ⟨hg.os, hg.tape, hg.output, hg.size, fun k hk _ => hg.block k hk (by simp)⟩
  | some g =>
    refine h.step (lo' := g) (hi' := g + 1) ⟨hg.os, hg.tape, hg.output, hg.size, fun k hk hc => hg.block k hk (by simp; omega)⟩ fun j h1 h2 => ?_
    have : j = g := by omega
    subst this
    exact hr _ rfl

theorem Kp.cell {lo hi : Nat} {w w' : World} (h : Kp lo hi w w') {b o : Nat} {v : Value} (hc : w.cell? ⟨b, o, none⟩ = some v) (hb : b < lo ∨ hi ≤ b) : w'.cell? ⟨b, o, none⟩ = some v :=
  (World.cell?_of_block (w := w) (h.block b (World.block_lt_of_cell? w _ hc) hb)).trans hc

theorem cell_lt {w : World} {b o : Nat} {v : Value} (h : w.cell? ⟨b, o, none⟩ = some v) : b < w.heap.size := World.block_lt_of_cell? w _ h

theorem heap_lt {w : World} {b : Nat} {o : Obj} (h : w.heap[b]? = some o) : b < w.heap.size := (Array.getElem?_eq_some_iff.1 h).1

theorem Kp.heap {lo hi : Nat} {w w' : World} (h : Kp lo hi w w') {b : Nat} {o : Obj} (hc : w.heap[b]? = some o) (hb : b < lo ∨ hi ≤ b) : w'.heap[b]? = some o :=
  (h.block b (heap_lt hc) hb).trans hc

/-- A slice value that reads as n elements of k cells each, xs; its cells lie in a block from lo on, below hi. -/
def Rd (lo hi : Nat) (w : World) (k : Nat) (v : Value) (n : Nat) (xs : List Value) : Prop :=
  xs.length = n * k ∧ ∃ ao c, v = .slice ao n c ∧ n ≤ c ∧ c ≤ maxLen ∧ (ao = none → c = 0) ∧
    ∀ j u, xs[j]? = some u → ∃ b off, ao = some ⟨b, off, none⟩ ∧ lo ≤ b ∧ b < hi ∧ w.cell? ⟨b, off + j, none⟩ = some u

/-- A slice of integers that reads as l. -/
def RdI (K : IntKind) (lo hi : Nat) (w : World) (v : Value) (l : List Int) : Prop := Rd lo hi w 1 v l.length (l.map (.int K))

theorem Rd.keep {lo hi lo' hi' : Nat} {w w' : World} {k : Nat} {v : Value} {n : Nat} {xs : List Value} (h : Rd lo hi w k v n xs) (hk : Kp lo' hi' w w') (hd : ∀ b, lo ≤ b → b < hi → b < lo' ∨ hi' ≤ b) : Rd lo hi w' k v n xs := by
  obtain ⟨h1, ao, c, rfl, h2, h3, hn0, h4⟩ := h
  refine ⟨h1, ao, c, rfl, h2, h3, hn0, fun j u hu => ?_⟩
  obtain ⟨b, off, rfl, hl, hh, hc⟩ := h4 j u hu
  exact ⟨b, off, rfl, hl, hh, hk.cell hc (hd b hl hh)⟩

theorem Rd.keep0 {lo hi : Nat} {w w' : World} {k : Nat} {v : Value} {n : Nat} {xs : List Value} (h : Rd lo hi w k v n xs) (hk : Kp 0 0 w w') : Rd lo hi w' k v n xs := h.keep hk fun _ _ _ => .inr (Nat.zero_le _)

theorem Rd.wide {lo hi lo' hi' : Nat} {w : World} {k : Nat} {v : Value} {n : Nat} {xs : List Value} (h : Rd lo hi w k v n xs) (h1 : lo' ≤ lo) (h2 : hi ≤ hi') : Rd lo' hi' w k v n xs := by
  obtain ⟨g1, ao, c, rfl, g2, g3, gn0, g4⟩ := h
  refine ⟨g1, ao, c, rfl, g2, g3, gn0, fun j u hu => ?_⟩
  obtain ⟨b, off, rfl, hl, hh, hc⟩ := g4 j u hu
  exact ⟨b, off, rfl, by omega, by omega, hc⟩

/-- What is read lies in blocks that there are. -/
theorem Rd.there {lo hi : Nat} {w : World} {k : Nat} {v : Value} {n : Nat} {xs : List Value} (h : Rd lo hi w k v n xs) : Rd lo w.heap.size w k v n xs := by
  obtain ⟨g1, ao, c, rfl, g2, g3, gn0, g4⟩ := h
  refine ⟨g1, ao, c, rfl, g2, g3, gn0, fun j u hu => ?_⟩
  obtain ⟨b, off, rfl, hl, hh, hc⟩ := g4 j u hu
  exact ⟨b, off, rfl, hl, cell_lt hc, hc⟩

theorem RdI.keep {K : IntKind} {lo hi lo' hi' : Nat} {w w' : World} {v : Value} {l : List Int} (h : RdI K lo hi w v l) (hk : Kp lo' hi' w w') (hd : ∀ b, lo ≤ b → b < hi → b < lo' ∨ hi' ≤ b) : RdI K lo hi w' v l := Rd.keep h hk hd
theorem RdI.keep0 {K : IntKind} {lo hi : Nat} {w w' : World} {v : Value} {l : List Int} (h : RdI K lo hi w v l) (hk : Kp 0 0 w w') : RdI K lo hi w' v l := Rd.keep0 h hk
theorem RdI.wide {K : IntKind} {lo hi lo' hi' : Nat} {w : World} {v : Value} {l : List Int} (h : RdI K lo hi w v l) (h1 : lo' ≤ lo) (h2 : hi ≤ hi') : RdI K lo' hi' w v l := Rd.wide h h1 h2
theorem RdI.there {K : IntKind} {lo hi : Nat} {w : World} {v : Value} {l : List Int} (h : RdI K lo hi w v l) : RdI K lo w.heap.size w v l := Rd.there h

theorem RdI.nil (K : IntKind) (lo hi : Nat) (w : World) : RdI K lo hi w (.slice none 0 0) [] := ⟨rfl, none, 0, rfl, Nat.le_refl _, Nat.zero_le _, fun _ => rfl, fun j u hu => by simp at hu⟩

/-- Where there is an element: the cells. -/
def Cl (K : IntKind) (lo hi : Nat) (w : World) (ao : Option Addr) (l : List Int) : Prop :=
  0 < l.length → ∃ b off, ao = some ⟨b, off, none⟩ ∧ lo ≤ b ∧ b < hi ∧ ∀ j, j < l.length → w.cell? ⟨b, off + j, none⟩ = some (.int K (l.getD j 0))

/-- The value's shape; and, where there is an element, its cells. -/
theorem RdI.open {K : IntKind} {lo hi : Nat} {w : World} {v : Value} {l : List Int} (h : RdI K lo hi w v l) : ∃ ao c, v = .slice ao l.length c ∧ l.length ≤ c ∧ c ≤ 9223372036854775807 ∧ Cl K lo hi w ao l := by
  obtain ⟨h1, ao, c, rfl, h2, h3, hn0, h4⟩ := h
  refine ⟨ao, c, rfl, h2, by unfold maxLen at h3; omega, fun h0 => ?_⟩
  obtain ⟨b, off, rfl, hl, hh, h5⟩ := h4 0 (.int K (l.getD 0 0)) (by simp [h0])
  refine ⟨b, off, rfl, hl, hh, fun j hj => ?_⟩
  obtain ⟨b', off', he, _, _, h6⟩ := h4 j (.int K (l.getD j 0)) (by simp [hj])
  simp only [Option.some.injEq, Addr.mk.injEq] at he
  obtain ⟨rfl, rfl, _⟩ := he
  exact h6

theorem RdI.pre {K : IntKind} {lo hi : Nat} {w : World} {ao : Option Addr} {c : Nat} {l : List Int} (h : RdI K lo hi w (.slice ao l.length c) l) {n : Nat} (hn : n ≤ l.length) : RdI K lo hi w (.slice ao n c) (l.take n) := by
  obtain ⟨h1, ao', c', he, h2, h3, hn0, h4⟩ := h
  simp only [Value.slice.injEq] at he
  obtain ⟨rfl, _, rfl⟩ := he
  have hlen : (l.take n).length = n := by rw [List.length_take]; omega
  refine ⟨by simp, ao, c, by rw [hlen], by rw [hlen]; omega, h3, hn0, fun j u hu => h4 j u ?_⟩
  rw [List.map_take, List.getElem?_take] at hu
  split at hu
  · exact hu
  · cases hu

theorem RdI.suf {K : IntKind} {lo hi : Nat} {w : World} {ao : Option Addr} {c : Nat} {l : List Int} (h : RdI K lo hi w (.slice ao l.length c) l) {n : Nat} (hn : n ≤ l.length) : RdI K lo hi w (.slice (Option.map (fun x => x.add n) ao) (l.length - n) (c - n)) (l.drop n) := by
  obtain ⟨h1, ao', c', he, h2, h3, hn0, h4⟩ := h
  simp only [Value.slice.injEq] at he
  obtain ⟨rfl, _, rfl⟩ := he
  have hlen : (l.drop n).length = l.length - n := List.length_drop
  refine ⟨by simp, Option.map (fun x => x.add n) ao, c - n, by rw [hlen], by rw [hlen]; omega, by omega, fun hx => ?_, fun j u hu => ?_⟩
  · cases ao with
    | none => have := hn0 rfl; omega
    | some a => cases hx
  · rw [List.map_drop, List.getElem?_drop] at hu
    obtain ⟨b, off, rfl, hl, hh, hc⟩ := h4 (n + j) u hu
    refine ⟨b, off + n, by rw [Option.map_some, Addr.add_lit], hl, hh, ?_⟩
    rw [Nat.add_assoc]
    exact hc

theorem RdI.end {K : IntKind} {lo hi : Nat} {w : World} {ao : Option Addr} {l : List Int} {n : Nat} (hn : l.length ≤ n) : RdI K lo hi w (.slice ao (l.length - n) 0) (l.drop n) := by
  have hd : l.drop n = [] := List.drop_eq_nil_of_le hn
  have h0 : l.length - n = 0 := by omega
  rw [hd, h0]
  exact ⟨rfl, ao, 0, rfl, Nat.le_refl _, Nat.zero_le _, fun _ => rfl, fun j u hu => by simp at hu⟩

theorem RdI.suf2 {K : IntKind} {lo hi : Nat} {w : World} {ao : Option Addr} {c : Nat} {l : List Int} (h : RdI K lo hi w (.slice ao l.length c) l) {n : Nat} (hn : n ≤ l.length) : RdI K lo hi w (.slice (if c = n then ao else Option.map (fun x => x.add n) ao) (l.length - n) (c - n)) (l.drop n) := by
  by_cases hc : c = n
  · rw [if_pos hc]
    obtain ⟨ao', c', he, h2, _, _⟩ := h.open
    simp only [Value.slice.injEq] at he
    obtain ⟨_, _, rfl⟩ := he
    have h0 : c - n = 0 := by omega
    rw [h0]
    exact RdI.end (by omega)
  · rw [if_neg hc]
    exact h.suf hn

/-- A slice of integers that the call itself owns, in a block from lo on, below hi. -/
def OwnI (K : IntKind) (e : TypeId) (lo hi : Nat) (w : World) (v : Value) (l : List Int) : Prop :=
  w.ownsRow lo e 1 v l.length (l.map (.int K)) ∧ ∀ k, v.ownBlock = some k → k < hi

theorem OwnI.nil (K : IntKind) (e : TypeId) (lo hi : Nat) (w : World) : OwnI K e lo hi w (.slice none 0 0) [] := ⟨World.ownsRow_nil _ _ _ _, fun k hk => by simp [Value.ownBlock] at hk⟩

theorem OwnI.keep {K : IntKind} {e : TypeId} {lo hi lo' hi' : Nat} {w w' : World} {v : Value} {l : List Int} (h : OwnI K e lo hi w v l) (hk : Kp lo' hi' w w') (hd : ∀ b, lo ≤ b → b < hi → b < lo' ∨ hi' ≤ b) : OwnI K e lo hi w' v l := by
  obtain ⟨⟨h1, h2⟩, h3⟩ := h
  refine ⟨⟨h1, ?_⟩, h3⟩
  rcases h2 with hn | ⟨g, cap, cur, rfl, hb, hg, rest⟩
  · exact .inl hn
  · exact .inr ⟨g, cap, cur, rfl, hb, hk.heap hg (hd g hb (h3 g rfl)), rest⟩

theorem OwnI.keep0 {K : IntKind} {e : TypeId} {lo hi : Nat} {w w' : World} {v : Value} {l : List Int} (h : OwnI K e lo hi w v l) (hk : Kp 0 0 w w') : OwnI K e lo hi w' v l := h.keep hk fun _ _ _ => .inr (Nat.zero_le _)

theorem OwnI.wide {K : IntKind} {e : TypeId} {lo hi lo' hi' : Nat} {w : World} {v : Value} {l : List Int} (h : OwnI K e lo hi w v l) (h1 : lo' ≤ lo) (h2 : hi ≤ hi') : OwnI K e lo' hi' w v l := by
  obtain ⟨⟨g1, g2⟩, g3⟩ := h
  refine ⟨⟨g1, ?_⟩, fun k hk => by have := g3 k hk; omega⟩
  rcases g2 with hn | ⟨g, cap, cur, rfl, hb, rest⟩
  · exact .inl hn
  · exact .inr ⟨g, cap, cur, rfl, by omega, rest⟩

theorem OwnI.there {K : IntKind} {e : TypeId} {lo hi : Nat} {w : World} {v : Value} {l : List Int} (h : OwnI K e lo hi w v l) : OwnI K e lo w.heap.size w v l :=
  ⟨h.1, fun k hk => (h.1.lt k hk).2⟩

theorem OwnI.of_row {K : IntKind} {e : TypeId} {lo : Nat} {w : World} {v : Value} {l : List Int} (h : w.ownsRow lo e 1 v l.length (l.map (.int K))) : OwnI K e lo w.heap.size w v l :=
  ⟨h, fun k hk => (h.lt k hk).2⟩

theorem OwnI.of_rowN {K : IntKind} {e : TypeId} {lo n : Nat} {w : World} {v : Value} {l : List Int} (h : w.ownsRow lo e 1 v n (l.map (.int K))) (hn : l.length = n) : OwnI K e lo w.heap.size w v l := by
  subst hn
  exact OwnI.of_row h

theorem OwnI.rd {K : IntKind} {e : TypeId} {lo hi : Nat} {w : World} {v : Value} {l : List Int} (h : OwnI K e lo hi w v l) : RdI K lo hi w v l := by
  obtain ⟨⟨h1, h2⟩, h3⟩ := h
  refine ⟨h1, ?_⟩
  rcases h2 with ⟨rfl, hn⟩ | ⟨g, cap, cur, rfl, hb, hg, hn, hc, hs, ht⟩
  · refine ⟨none, 0, by rw [hn], by omega, Nat.zero_le _, fun _ => rfl, fun j u hu => ?_⟩
    have := (List.getElem?_eq_some_iff.1 hu).1
    simp at this
    omega
  · refine ⟨some ⟨g, 0, none⟩, cap, rfl, hn, hc, (fun h => by cases h), fun j u hu => ⟨g, 0, rfl, hb, h3 g rfl, ?_⟩⟩
    have hlt := (List.getElem?_eq_some_iff.1 hu).1
    rw [← ht, List.getElem?_take] at hu
    split at hu
    · simp only [World.cell?, hg, Nat.zero_add]
      simpa using hu
    · cases hu

/-- The element that is appended: one new cell. -/
theorem cell_one (w : World) (u : Value) (e : TypeId) : ∀ j x, [u][j]? = some x → (w.alloc (.cells #[u] e)).cell? ((⟨w.heap.size, 0, none⟩ : Addr).add j) = some x := by
  intro j x hx
  match j, hx with
  | 0, hx =>
    simp at hx
    subst hx
    simp [Addr.add]

/-- A slice that was written out: the call owns it. -/
theorem own_lit {w : World} {base n : Nat} (vs : Array Value) (e : TypeId) (hb : base ≤ w.heap.size) (hn : vs.size = n) (hm : n ≤ maxLen) :
    (w.alloc (.cells vs e)).ownsRow base e 1 (.slice (some ⟨w.heap.size, 0, none⟩) n n) n vs.toList :=
  ⟨by simp [hn], .inr ⟨w.heap.size, n, vs, rfl, hb, heap_alloc_new w _, Nat.le_refl _, hm, by omega, by rw [List.take_of_length_le (by simp [hn])]⟩⟩

/-- A slice of integers that was just written out. -/
theorem lit_rd (K : IntKind) (e : TypeId) (w : World) (zs : List Int) (h : zs.length ≤ maxLen) : RdI K w.heap.size (w.heap.size + 1) (w.alloc (.cells (zs.map (.int K)).toArray e)) (.slice (some ⟨w.heap.size, 0, none⟩) zs.length zs.length) zs := by
  have h1 := own_lit (w := w) (base := w.heap.size) (n := zs.length) (zs.map (.int K)).toArray e (Nat.le_refl _) (by simp) h
  have h2 := (OwnI.of_rowN (l := zs) (K := K) (by simpa using h1) rfl).rd
  exact h2.wide (Nat.le_refl _) (by simp)

/-- append(out, xs...): what is appended is whatever slice of integers reads as l. -/
theorem wpList_app {P : Program} {w : World} {ops : Array Oper} {rest : List Oper} {o : Oper} {a : Act} {Q : Exit → Act → World → Prop} (hgd : o.guard = none) (s x : Operand) (t : TypeId)
    (ho : o.op = .call { callee := .builtin .append, args := #[s, x], argTypes := #[t, t] })
    (base : Nat) (e : TypeId) (K : IntKind) (bytes : Nat) (ht : P.underlying t = some (.slice e)) (hinfo : (P.info? e).map (fun i => (i.zero, i.size, i.bytes)) = some (some (.int K 0), 1, bytes))
    (v : Value) (n : Nat) (xs : List Value) (hs : a.eval s = v) (hown : w.ownsRow base e 1 v n xs)
    {lo hi : Nat} (vx : Value) (hx : a.eval x = vx) (l : List Int) (hrd : RdI K lo hi w vx l)
    (h63 : n + l.length ≤ maxLen) (hbytes : (n + l.length) * bytes ≤ 140737488355328) (hbase : base ≤ w.heap.size)
    (h : ∀ v' w', w'.ownsRow base e 1 v' (n + l.length) (xs ++ l.map (.int K)) → w.grownBy w' v.ownBlock → wpList P ops Q rest (a.put o.dst v') w') : wpList P ops Q (o :: rest) a w := by
  obtain ⟨i0, hi0, hz0, hz1, hz2⟩ := info_parts hinfo
  obtain ⟨h1, ao, c, rfl, h2, h3, hn0, h4⟩ := hrd
  cases ao with
  | none =>
    have hc : c = 0 := hn0 rfl
    subst hc
    have hl : l = [] := List.eq_nil_of_length_eq_zero (by omega)
    subst hl
    refine wpList_append_own_none hgd s x t ho base e i0 1 ht hi0 v n xs hs hown hx (h v w (by simpa using hown) (World.grownBy.refl _ _))
  | some ad =>
    refine wpList_append_own w hgd s x t ho base e i0 (.int K 0) 1 bytes ht hi0 hz0 hz1 hz2 rfl (by decide) v n xs hs hown ad l.length c (l.map (.int K)) hx (by simp) (fun j u hu => ?_) (ints_oneCell K l) h63 hbytes hbase fun v' w' g1 g2 _ => h v' w' g1 g2
    obtain ⟨b, off, he, _, _, hcell⟩ := h4 j u hu
    obtain rfl := Option.some.inj he
    rw [Addr.add_lit]
    exact hcell

end Go.Proofs.Ytgokhagbknlfaaa
