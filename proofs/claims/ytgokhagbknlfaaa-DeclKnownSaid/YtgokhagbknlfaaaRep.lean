/-
  What cells stand for: rows of things of several cells each, rows within rows; read only (RdS), and rows that a call owns (OwnS). The blocks on which a reading leans are a set of its own.
-/
import Derived.Test.YtgokhagbknlfaaaLib
namespace Go.Proofs.Ytgokhagbknlfaaa
open Go.RowKit

/-- What some cells stand for, leaning on some blocks. -/
abbrev Rp (α : Type) := World → (Nat → Prop) → List Value → α → Prop

/-- The same world: what the walk must not see through. -/
def Eqw (a b : World) : Prop := a = b
theorem Eqw.refl (a : World) : Eqw a a := rfl
theorem Eqw.out {a b : World} (h : Eqw a b) : a = b := h

/-- What a slot holds that nothing was yielded to is no bool (the walk's own matcher: laid as a hypothesis ahead of a drawn region in which guards are decided against). -/
theorem no_bool : (yielded.match_1 (fun _ => Option Bool) (some undef) (fun b => some b) (fun _ => none) : Option Bool) = none := rfl

/-- The blocks from lo to hi. -/
def Iv (lo hi : Nat) (b : Nat) : Prop := lo ≤ b ∧ b < hi

/-- What a Rp must keep to. -/
structure Rp.Good {α : Type} (E : Rp α) : Prop where
  keep : ∀ {S : Nat → Prop} {lo hi : Nat} {w w' : World} {xs : List Value} {x : α}, E w S xs x → Kp lo hi w w' → (∀ b, S b → b < lo ∨ hi ≤ b) → E w' S xs x
  wide : ∀ {S T : Nat → Prop} {w : World} {xs : List Value} {x : α}, E w S xs x → (∀ b, b < w.heap.size → S b → T b) → E w T xs x

/-- A slice that reads as a row of things of k cells. -/
def RdS {α : Type} (E : Rp α) (k : Nat) (w : World) (S : Nat → Prop) (v : Value) (l : List α) : Prop :=
  ∃ ao c, v = .slice ao l.length c ∧ l.length ≤ c ∧ c ≤ 9223372036854775807 ∧ (ao = none → c = 0) ∧
    (0 < l.length → ∃ b o, ao = some ⟨b, o, none⟩ ∧ S b ∧
      ∀ i x, l[i]? = some x → ∃ xs, xs.length = k ∧ (∀ j u, xs[j]? = some u → w.cell? ⟨b, o + i * k + j, none⟩ = some u) ∧ E w S xs x)

/-- What a row holds, without the slice's form. -/
def ClS {α : Type} (E : Rp α) (k : Nat) (w : World) (S : Nat → Prop) (ao : Option Addr) (l : List α) : Prop :=
  0 < l.length → ∃ b o, ao = some ⟨b, o, none⟩ ∧ S b ∧
      ∀ i x, l[i]? = some x → ∃ xs, xs.length = k ∧ (∀ j u, xs[j]? = some u → w.cell? ⟨b, o + i * k + j, none⟩ = some u) ∧ E w S xs x

theorem RdS.open {α : Type} {E : Rp α} {k : Nat} {w : World} {S : Nat → Prop} {v : Value} {l : List α} (h : RdS E k w S v l) :
    ∃ ao c, v = .slice ao l.length c ∧ l.length ≤ c ∧ c ≤ 9223372036854775807 ∧ ClS E k w S ao l := by
  obtain ⟨ao, c, rfl, h1, h2, _, h4⟩ := h
  exact ⟨ao, c, rfl, h1, h2, h4⟩

theorem RdS.cl {α : Type} {E : Rp α} {k : Nat} {w : World} {S : Nat → Prop} {ao : Option Addr} {c n : Nat} {l : List α} (h : RdS E k w S (.slice ao n c) l) : ClS E k w S ao l := by
  obtain ⟨_, _, he, _, _, hx⟩ := h.open
  cases he
  exact hx

theorem RdS.nil {α : Type} (E : Rp α) (k : Nat) (w : World) (S : Nat → Prop) : RdS E k w S (.slice none 0 0) ([] : List α) := ⟨none, 0, rfl, Nat.le_refl _, by omega, fun _ => rfl, fun h => by simp at h⟩

theorem RdS.keep {α : Type} {E : Rp α} (G : E.Good) {k : Nat} {w w' : World} {S : Nat → Prop} {lo hi : Nat} {v : Value} {l : List α} (h : RdS E k w S v l) (hk : Kp lo hi w w') (hd : ∀ b, S b → b < lo ∨ hi ≤ b) : RdS E k w' S v l := by
  obtain ⟨ao, c, rfl, h1, h2, h3, h4⟩ := h
  refine ⟨ao, c, rfl, h1, h2, h3, fun h0 => ?_⟩
  obtain ⟨b, o, rfl, hb, hx⟩ := h4 h0
  refine ⟨b, o, rfl, hb, fun i x hi => ?_⟩
  obtain ⟨xs, hl, hc, he⟩ := hx i x hi
  exact ⟨xs, hl, fun j u hu => hk.cell (hc j u hu) (hd b hb), G.keep he hk hd⟩

theorem ClS.keep0 {α : Type} {E : Rp α} (G : E.Good) {k : Nat} {w w' : World} {S : Nat → Prop} {ao : Option Addr} {l : List α} (h : ClS E k w S ao l) (hk : Kp 0 0 w w') : ClS E k w' S ao l := by
  intro h0
  obtain ⟨b, o, rfl, hb, hx⟩ := h h0
  refine ⟨b, o, rfl, hb, fun i x hi => ?_⟩
  obtain ⟨xs, hl, hc, he⟩ := hx i x hi
  exact ⟨xs, hl, fun j u hu => hk.cell (hc j u hu) (.inr (Nat.zero_le _)), G.keep he hk fun _ _ => .inr (Nat.zero_le _)⟩

theorem RdS.keep0 {α : Type} {E : Rp α} (G : E.Good) {k : Nat} {w w' : World} {S : Nat → Prop} {v : Value} {l : List α} (h : RdS E k w S v l) (hk : Kp 0 0 w w') : RdS E k w' S v l := h.keep G hk fun _ _ => .inr (Nat.zero_le _)

theorem RdS.wide {α : Type} {E : Rp α} (G : E.Good) {k : Nat} (hk0 : 0 < k) {w : World} {S T : Nat → Prop} {v : Value} {l : List α} (h : RdS E k w S v l) (hd : ∀ b, b < w.heap.size → S b → T b) : RdS E k w T v l := by
  obtain ⟨ao, c, rfl, h1, h2, h3, h4⟩ := h
  refine ⟨ao, c, rfl, h1, h2, h3, fun h0 => ?_⟩
  obtain ⟨b, o, rfl, hb, hx⟩ := h4 h0
  have hlt : b < w.heap.size := by
    obtain ⟨xs, hl, hc, _⟩ := hx 0 l[0] (List.getElem?_eq_getElem h0)
    have h0k : 0 < xs.length := by omega
    exact cell_lt (hc 0 xs[0] (List.getElem?_eq_getElem h0k))
  refine ⟨b, o, rfl, hd b hlt hb, fun i x hi => ?_⟩
  obtain ⟨xs, hl, hc, he⟩ := hx i x hi
  exact ⟨xs, hl, hc, G.wide he hd⟩

/-- A part of a row. -/
theorem RdS.part {α : Type} {E : Rp α} {k : Nat} {w : World} {S : Nat → Prop} {ao : Option Addr} {c : Nat} {l : List α} (h : RdS E k w S (.slice ao l.length c) l) {n : Nat} (hn : n ≤ l.length) :
    RdS E k w S (.slice ao n c) (l.take n) := by
  obtain ⟨ao', c', he, h1, h2, h3, h4⟩ := h
  cases he
  have hlen : (l.take n).length = n := by rw [List.length_take]; omega
  refine ⟨ao, c, by rw [hlen], by omega, h2, h3, fun h0 => ?_⟩
  rw [hlen] at h0
  obtain ⟨b, o, rfl, hb, hx⟩ := h4 (by omega)
  refine ⟨b, o, rfl, hb, fun i x hi => ?_⟩
  rw [List.getElem?_take] at hi
  split at hi
  · exact hx i x hi
  · cases hi

/-- The cells of the things of a row, one behind the other. -/
def SplitS {α : Type} (E : Rp α) (k : Nat) (w : World) (S : Nat → Prop) (xs : List Value) (l : List α) : Prop :=
  xs.length = l.length * k ∧ ∀ i x, l[i]? = some x → E w S ((xs.drop (i * k)).take k) x

theorem SplitS.nil {α : Type} (E : Rp α) (k : Nat) (w : World) (S : Nat → Prop) : SplitS E k w S [] ([] : List α) := ⟨by simp, fun i x h => by simp at h⟩

theorem SplitS.keep {α : Type} {E : Rp α} (G : E.Good) {k : Nat} {w w' : World} {S : Nat → Prop} {lo hi : Nat} {xs : List Value} {l : List α} (h : SplitS E k w S xs l) (hk : Kp lo hi w w') (hd : ∀ b, S b → b < lo ∨ hi ≤ b) : SplitS E k w' S xs l :=
  ⟨h.1, fun i x hi => G.keep (h.2 i x hi) hk hd⟩
theorem SplitS.wide {α : Type} {E : Rp α} (G : E.Good) {k : Nat} {w : World} {S T : Nat → Prop} {xs : List Value} {l : List α} (h : SplitS E k w S xs l) (hd : ∀ b, b < w.heap.size → S b → T b) : SplitS E k w T xs l :=
  ⟨h.1, fun i x hi => G.wide (h.2 i x hi) hd⟩

theorem SplitS.snoc {α : Type} {E : Rp α} {k : Nat} {w : World} {S : Nat → Prop} {xs ys : List Value} {l : List α} {x : α} (h : SplitS E k w S xs l) (hy : ys.length = k) (he : E w S ys x) : SplitS E k w S (xs ++ ys) (l ++ [x]) := by
  obtain ⟨h1, h2⟩ := h
  refine ⟨by rw [List.length_append, List.length_append, h1, hy, List.length_singleton, Nat.add_mul, Nat.one_mul], fun i y hi => ?_⟩
  by_cases hil : i < l.length
  · rw [List.getElem?_append_left hil] at hi
    have hle : i * k + k ≤ xs.length := by
      rw [h1, ← Nat.succ_mul]
      exact Nat.mul_le_mul_right k hil
    rw [List.drop_append_of_le_length (by omega), List.take_append_of_le_length (by rw [List.length_drop]; omega)]
    exact h2 i y hi
  · have hie : i = l.length := by
      have := (List.getElem?_eq_some_iff.1 hi).1
      rw [List.length_append, List.length_singleton] at this
      omega
    subst hie
    rw [List.getElem?_append_right (Nat.le_refl _), Nat.sub_self] at hi
    simp at hi
    subst hi
    rw [← h1, List.drop_left, ← hy, List.take_length]
    exact he

/-- A row that a call owns, from block base on; what its things lean on. -/
def OwnS {α : Type} (E : Rp α) (e : TypeId) (k base : Nat) (w : World) (S : Nat → Prop) (v : Value) (l : List α) : Prop :=
  ∃ xs, w.ownsRow base e k v l.length xs ∧ SplitS E k w S xs l ∧ ∀ g, v.ownBlock = some g → ¬ S g

theorem OwnS.nil {α : Type} (E : Rp α) (e : TypeId) (k base : Nat) (w : World) (S : Nat → Prop) : OwnS E e k base w S (.slice none 0 0) ([] : List α) := ⟨[], World.ownsRow_nil _ _ _ _, SplitS.nil _ _ _ _, fun k hk => by simp [Value.ownBlock] at hk⟩

theorem ownsRow_kp {base : Nat} {e : TypeId} {k n lo' hi' : Nat} {w w' : World} {v : Value} {xs : List Value} (h : w.ownsRow base e k v n xs) (hk : Kp lo' hi' w w') (hd : ∀ b, v.ownBlock = some b → b < lo' ∨ hi' ≤ b) : w'.ownsRow base e k v n xs := by
  obtain ⟨h1, h2⟩ := h
  refine ⟨h1, ?_⟩
  rcases h2 with hn | ⟨g, cap, cur, rfl, hb, hg, rest⟩
  · exact .inl hn
  · exact .inr ⟨g, cap, cur, rfl, hb, hk.heap hg (hd g rfl), rest⟩

theorem OwnS.keep {α : Type} {E : Rp α} (G : E.Good) {e : TypeId} {k base lo hi : Nat} {w w' : World} {S : Nat → Prop} {v : Value} {l : List α} (h : OwnS E e k base w S v l) (hk : Kp lo hi w w') (hs : ∀ b, S b → b < lo ∨ hi ≤ b) (hv : ∀ b, v.ownBlock = some b → b < lo ∨ hi ≤ b) : OwnS E e k base w' S v l := by
  obtain ⟨xs, h1, h2, h3⟩ := h
  exact ⟨xs, ownsRow_kp h1 hk hv, h2.keep G hk hs, h3⟩
theorem OwnS.keep0 {α : Type} {E : Rp α} (G : E.Good) {e : TypeId} {k base : Nat} {w w' : World} {S : Nat → Prop} {v : Value} {l : List α} (h : OwnS E e k base w S v l) (hk : Kp 0 0 w w') : OwnS E e k base w' S v l := h.keep G hk (fun _ _ => .inr (Nat.zero_le _)) (fun _ _ => .inr (Nat.zero_le _))

theorem ownsRow_lt {base k n : Nat} {e : TypeId} {w : World} {v : Value} {xs : List Value} (h : w.ownsRow base e k v n xs) : ∀ g, v.ownBlock = some g → base ≤ g ∧ g < w.heap.size := by
  intro g hg
  obtain ⟨_, h2⟩ := h
  rcases h2 with ⟨rfl, _⟩ | ⟨g', cap, cur, rfl, hb, hh, _⟩
  · simp [Value.ownBlock] at hg
  · simp [Value.ownBlock] at hg
    subst hg
    exact ⟨hb, heap_lt hh⟩

theorem OwnS.below {α : Type} {E : Rp α} {e : TypeId} {k base base' : Nat} {w : World} {S : Nat → Prop} {v : Value} {l : List α} (h : OwnS E e k base w S v l) (hb : base' ≤ base) : OwnS E e k base' w S v l := by
  obtain ⟨xs, ⟨h1, h2⟩, h3⟩ := h
  refine ⟨xs, ⟨h1, ?_⟩, h3⟩
  rcases h2 with hn | ⟨g, cap, cur, rfl, hb', rest⟩
  · exact .inl hn
  · exact .inr ⟨g, cap, cur, rfl, by omega, rest⟩

theorem OwnS.rd {α : Type} {E : Rp α} (G : E.Good) {e : TypeId} {k base : Nat} {w : World} {S T : Nat → Prop} {v : Value} {l : List α} (h : OwnS E e k base w S v l) (hS : ∀ b, b < w.heap.size → S b → T b) (hv : ∀ g, v.ownBlock = some g → T g) : RdS E k w T v l := by
  obtain ⟨xs, ⟨h1, h2⟩, h3, _⟩ := h
  rcases h2 with ⟨rfl, hn⟩ | ⟨g, cap, cur, rfl, hb, hg, hn, hc, hs, ht⟩
  · have : l = [] := List.eq_nil_of_length_eq_zero hn
    subst this
    exact RdS.nil _ _ _ _
  · refine ⟨some ⟨g, 0, none⟩, cap, rfl, hn, hc, (fun h => by cases h), fun _ => ⟨g, 0, rfl, hv g rfl, fun i x hi => ⟨(xs.drop (i * k)).take k, ?_, fun j u hu => ?_, G.wide (h3.2 i x hi) hS⟩⟩⟩
    · have hil := (List.getElem?_eq_some_iff.1 hi).1
      have hle : i * k + k ≤ xs.length := by
        rw [h3.1, ← Nat.succ_mul]
        exact Nat.mul_le_mul_right k hil
      rw [List.length_take, List.length_drop]
      omega
    · rw [List.getElem?_take] at hu
      split at hu
      · rw [List.getElem?_drop] at hu
        rw [Nat.zero_add]
        have hx : cur.toList[i * k + j]? = some u := by
          have : (cur.toList.take (l.length * k))[i * k + j]? = some u := by rw [ht]; exact hu
          rw [List.getElem?_take] at this
          split at this
          · exact this
          · cases this
        simp [World.cell?, hg]
        rw [← Array.getElem?_toList]
        exact hx
      · cases hu

theorem OwnS.open {α : Type} {E : Rp α} {e : TypeId} {k base n : Nat} {w : World} {S : Nat → Prop} {v : Value} {l : List α} (h : OwnS E e k base w S v l) (hn : l.length = n) :
    ∃ xs, w.ownsRow base e k v n xs ∧ SplitS E k w S xs l ∧ ∀ g, v.ownBlock = some g → ¬ S g := by
  subst hn
  exact h

/-- One more thing behind a row: it leans on nothing. -/
theorem OwnS.flat {α : Type} {E : Rp α} {e : TypeId} {k base n : Nat} {w w' : World} {v' : Value} {l : List α} {x : α} {xs ys : List Value} (hs : SplitS E k w (fun _ => False) xs l) (ho : w'.ownsRow base e k v' (n + 1) (xs ++ ys)) (hn : l.length = n) (hy : ys.length = k) (G : ∀ {u u' : World} {zs : List Value} {z : α}, E u (fun _ => False) zs z → E u' (fun _ => False) zs z) (he : E w (fun _ => False) ys x) : OwnS E e k base w' (fun _ => False) v' (l ++ [x]) := by
  have h1 := hs.snoc hy he
  refine ⟨xs ++ ys, ?_, ⟨h1.1, fun i z hz => G (h1.2 i z hz)⟩, fun _ _ h => h⟩
  rw [List.length_append, List.length_singleton, hn]
  exact ho

/-- A block's cell. -/
theorem blk_cell {w : World} {g : Nat} {cur : Array Value} {e : TypeId} {q : Nat × Nat} (h : w.heap[g]? = some (.cells cur e q)) {k : Nat} {u : Value} (hu : cur[k]? = some u) : w.cell? ⟨g, k, none⟩ = some u := by
  simp [World.cell?, h, hu]

theorem alloc_size (w : World) (o : Obj) : (w.alloc o).heap.size = w.heap.size + 1 := by simp
theorem blk_old {w : World} {g : Nat} {o : Obj} (h : w.heap[g]? = some o) (p : Obj) : (w.alloc p).heap[g]? = some o := ((Kp.refl 0 0 w).alloc p).heap h (.inr (Nat.zero_le _))
theorem blk_one (w : World) (a : Obj) : (w.alloc a).heap[w.heap.size]? = some a := heap_alloc_new w a
theorem blk_two (w : World) (a b : Obj) : ((w.alloc a).alloc b).heap[w.heap.size + 1]? = some b := by
  have := heap_alloc_new (w.alloc a) b
  rwa [alloc_size] at this
theorem blk_three (w : World) (a b c : Obj) : (((w.alloc a).alloc b).alloc c).heap[w.heap.size + 1 + 1]? = some c := by
  have := heap_alloc_new ((w.alloc a).alloc b) c
  rwa [alloc_size, alloc_size] at this

theorem blk_four (w : World) (a b c d : Obj) : ((((w.alloc a).alloc b).alloc c).alloc d).heap[w.heap.size + 1 + 1 + 1]? = some d := by
  have := heap_alloc_new (((w.alloc a).alloc b).alloc c) d
  rwa [alloc_size, alloc_size, alloc_size] at this
theorem blk_five (w : World) (a b c d e : Obj) : (((((w.alloc a).alloc b).alloc c).alloc d).alloc e).heap[w.heap.size + 1 + 1 + 1 + 1]? = some e := by
  have := heap_alloc_new ((((w.alloc a).alloc b).alloc c).alloc d) e
  rwa [alloc_size, alloc_size, alloc_size, alloc_size] at this

/-- The cells of a literal. -/
theorem cell_lits (w : World) (xs : Array Value) (e : TypeId) : ∀ j x, xs.toList[j]? = some x → (w.alloc (.cells xs e)).cell? ((⟨w.heap.size, 0, none⟩ : Addr).add j) = some x := by
  intro j x h
  rw [Array.getElem?_toList] at h
  rw [Addr.add_lit, Nat.zero_add]
  exact blk_cell (heap_alloc_new w (.cells xs e)) h

theorem take_snoc {α : Type} {l : List α} {k : Nat} {x : α} (h : l[k]? = some x) : l.take (k + 1) = l.take k ++ [x] := by
  rw [List.take_add_one, h]
  rfl

theorem blk_frozen {w : World} {g : Nat} {cur : Array Value} {e : TypeId} (h : w.heap[g]? = some (.cells cur e (0, 0))) (k : Nat) : w.frozen? ⟨g, k, none⟩ = false := by simp [World.frozen?, h]

/-- A block of some cells, one of them written. -/
theorem blk_set {w : World} {g : Nat} {cur : Array Value} {e : TypeId} (h : w.heap[g]? = some (.cells cur e (0, 0))) (k : Nat) (u : Value) :
    (w.setCell ⟨g, k, none⟩ u).heap[g]? = some (.cells (cur.setIfInBounds k u) e (0, 0)) := by
  simp [World.setCell, Array.getElem?_modify, h]

/-- A block of four cells written over; of two. -/
theorem store_four {W : World} {q : Nat} {zs : Array Value} {e : TypeId} (h : W.heap[q]? = some (.cells zs e (0, 0))) (hz : zs.size = 4) (v0 v1 v2 v3 : Value) :
    ((((W.setCell ⟨q, 0, none⟩ v0).setCell ⟨q, 1, none⟩ v1).setCell ⟨q, 2, none⟩ v2).setCell ⟨q, 3, none⟩ v3).heap[q]? = some (.cells #[v0, v1, v2, v3] e (0, 0)) ∧ Kp q (q + 1) W ((((W.setCell ⟨q, 0, none⟩ v0).setCell ⟨q, 1, none⟩ v1).setCell ⟨q, 2, none⟩ v2).setCell ⟨q, 3, none⟩ v3) := by
  have e1 : ((((zs.setIfInBounds 0 v0).setIfInBounds 1 v1).setIfInBounds 2 v2).setIfInBounds 3 v3) = #[v0, v1, v2, v3] := by
    obtain ⟨l⟩ := zs
    match l, hz with
    | [_, _, _, _], _ => simp
  have s0 := blk_set h 0 v0
  have s1 := blk_set s0 1 v1
  have s2 := blk_set s1 2 v2
  have s3 := blk_set s2 3 v3
  rw [e1] at s3
  exact ⟨s3, (Kp.setCell (p := ⟨q, 3, none⟩) (Kp.setCell (p := ⟨q, 2, none⟩) (Kp.setCell (p := ⟨q, 1, none⟩) (Kp.setCell (p := ⟨q, 0, none⟩) (Kp.refl q (q + 1) W) (.inr ⟨Nat.le_refl q, Nat.lt_succ_self q⟩) v0) (.inr ⟨Nat.le_refl q, Nat.lt_succ_self q⟩) v1) (.inr ⟨Nat.le_refl q, Nat.lt_succ_self q⟩) v2) (.inr ⟨Nat.le_refl q, Nat.lt_succ_self q⟩) v3)⟩
theorem store_two {W : World} {q : Nat} {zs : Array Value} {e : TypeId} (h : W.heap[q]? = some (.cells zs e (0, 0))) (hz : zs.size = 2) (v0 v1 : Value) :
    ((W.setCell ⟨q, 0, none⟩ v0).setCell ⟨q, 1, none⟩ v1).heap[q]? = some (.cells #[v0, v1] e (0, 0)) ∧ Kp q (q + 1) W ((W.setCell ⟨q, 0, none⟩ v0).setCell ⟨q, 1, none⟩ v1) := by
  have e1 : ((zs.setIfInBounds 0 v0).setIfInBounds 1 v1) = #[v0, v1] := by
    obtain ⟨l⟩ := zs
    match l, hz with
    | [_, _], _ => simp
  have s0 := blk_set h 0 v0
  have s1 := blk_set s0 1 v1
  rw [e1] at s1
  exact ⟨s1, Kp.setCell (p := ⟨q, 1, none⟩) (Kp.setCell (p := ⟨q, 0, none⟩) (Kp.refl q (q + 1) W) (.inr ⟨Nat.le_refl q, Nat.lt_succ_self q⟩) v0) (.inr ⟨Nat.le_refl q, Nat.lt_succ_self q⟩) v1⟩

theorem kp_set (w : World) (g k : Nat) (u : Value) : Kp g (g + 1) w (w.setCell ⟨g, k, none⟩ u) := Kp.setCell (p := ⟨g, k, none⟩) (Kp.refl _ _ _) (.inr ⟨Nat.le_refl _, Nat.lt_succ_self _⟩) u

/-- append of a row that the call owns, as one step of a region that draws its order. -/
theorem step_own {P : Program} {ops : Array Oper} {o : Oper} {a : Act} {w : World} {K : Act → World → Prop} {Q : Exit → Act → World → Prop} {E : Prop} (hg : o.guard = none) (s x : Operand) (t : TypeId)
    (ho : o.op = .call { callee := .builtin .append, args := #[s, x], argTypes := #[t, t] })
    (base : Nat) (e : TypeId) (i : TypeInfo) (z : Value) (size bytes : Nat) (ht : P.underlying t = some (.slice e)) (hi : P.info? e = some i) (hz : i.zero = some z)
    (hsize : i.size = size) (hby : i.bytes = bytes) (hzs : z.cells.size = size) (hsz : 0 < size)
    (v : Value) (n : Nat) (xs : List Value) (hs : a.eval s = v) (hown : w.ownsRow base e size v n xs)
    (ad : Addr) (m c : Nat) (news : List Value) (hx : a.eval x = .slice (some ad) m c) (hl : news.length = m * size) (hnews : ∀ j u, news[j]? = some u → w.cell? (ad.add j) = some u) (h1 : ∀ u ∈ news, u.oneCell' = true)
    (h63 : n + m ≤ maxLen) (hbytes : (n + m) * bytes ≤ 140737488355328) (hbase : base ≤ w.heap.size)
    (h : ∀ v' w', w'.ownsRow base e size v' (n + m) (xs ++ news) → w.grownBy w' v.ownBlock → (v' = .slice none 0 0 ↔ v = .slice none 0 0 ∧ m = 0) → K (a.put o.dst v') w') :
    if Region.wanted o (yielded ops a.tmps) = true then Oper.wp P o a w K Q else E := by
  have hw : Region.wanted o (yielded ops a.tmps) = true := by simp [Region.wanted, hg]
  rw [if_pos hw]
  exact wp_append_own w s x t ho base e i z size bytes ht hi hz hsize hby hzs hsz v n xs hs hown ad m c news hx hl hnews h1 h63 hbytes hbase h

/-- A row that is not empty has an address. -/
theorem own_some {w : World} {base k n : Nat} {e : TypeId} {v : Value} {xs : List Value} (h : w.ownsRow base e k v n xs) (h0 : 0 < n) : ∃ g c, v = .slice (some ⟨g, 0, none⟩) n c ∧ base ≤ g ∧ g < w.heap.size := by
  have hlt := h.lt
  obtain ⟨_, h2⟩ := h
  rcases h2 with ⟨rfl, hn⟩ | ⟨g, cap, cur, rfl, hb, hg, _⟩
  · omega
  · exact ⟨g, cap, rfl, hb, heap_lt hg⟩

end Go.Proofs.Ytgokhagbknlfaaa
