/-
  Declarations that a call owns: the row of types, each one's row of fields, each field's row of moves, the row of projections; all blocks told apart by what they hold, fields' rows one from the other.
-/
import Derived.Test.YtgokhagbknlfaaaScKit
namespace Go.Proofs.Ytgokhagbknlfaaa
open Go.RowKit

theorem tag_tf : (42 : TypeId) ≠ 45 := by decide
theorem tag_tm : (42 : TypeId) ≠ 73 := by decide
theorem tag_tp : (42 : TypeId) ≠ 51 := by decide
theorem tag_fm : (45 : TypeId) ≠ 73 := by decide
theorem tag_fp : (45 : TypeId) ≠ 51 := by decide
theorem tag_mp : (73 : TypeId) ≠ 51 := by decide

/-- Only blocks of things of type e turn (and new ones come). -/
def Ktag (e : TypeId) (w w' : World) : Prop := ∀ (b : Nat) (cur : Array Value) (e' : TypeId), w.heap[b]? = some (.cells cur e' (0, 0)) → e' ≠ e → w'.heap[b]? = some (.cells cur e' (0, 0))

theorem Ktag.of_kp {e : TypeId} {w w' : World} (h : Kp 0 0 w w') : Ktag e w w' := fun _ _ _ hb _ => h.heap hb (.inr (Nat.zero_le _))
theorem Ktag.trans {e : TypeId} {a b c : World} (h : Ktag e a b) (k : Ktag e b c) : Ktag e a c := fun g cur e' hb hne => k g cur e' (h g cur e' hb hne) hne
theorem Ktag.of_set {e : TypeId} {w : World} {g : Nat} {cur : Array Value} (h : w.heap[g]? = some (.cells cur e (0, 0))) (k : Nat) (u : Value) : Ktag e w (w.setCell ⟨g, k, none⟩ u) := fun b cur' e' hb hne => by
  refine (kp_set w g k u).heap hb ?_
  by_cases hbg : b = g
  · subst hbg
    rw [h] at hb
    cases hb
    exact absurd rfl hne
  · omega
theorem Ktag.of_grown {e : TypeId} {w w' : World} {row : Option Nat} (hg : w.grownBy w' row) (hr : ∀ g, row = some g → ∃ cur, w.heap[g]? = some (.cells cur e (0, 0))) : Ktag e w w' := fun b cur' e' hb hne => by
  rw [hg.block b (heap_lt hb) ?_]
  · exact hb
  · intro er
    obtain ⟨cur, hc⟩ := hr b er.symm
    rw [hb] at hc
    cases hc
    exact hne rfl

theorem ownsRow_tag {base k n : Nat} {e : TypeId} {w : World} {v : Value} {xs : List Value} (h : w.ownsRow base e k v n xs) : ∀ g, v.ownBlock = some g → ∃ cur, w.heap[g]? = some (.cells cur e (0, 0)) := by
  intro g hg
  obtain ⟨_, h2⟩ := h
  rcases h2 with ⟨rfl, _⟩ | ⟨g', cap, cur, rfl, _, hb, _⟩
  · simp [Value.ownBlock] at hg
  · simp only [Value.ownBlock, Option.some.injEq] at hg
    subst hg
    exact ⟨cur, hb⟩

theorem ownsRow_open {base k n : Nat} {e : TypeId} {w : World} {v : Value} {xs : List Value} (h : w.ownsRow base e k v n xs) : ∃ ao c, v = .slice ao n c := by
  obtain ⟨_, h2⟩ := h
  rcases h2 with ⟨rfl, rfl⟩ | ⟨g', cap, cur, rfl, _⟩
  · exact ⟨none, 0, rfl⟩
  · exact ⟨_, _, rfl⟩

theorem ownsRow_ktag {base k n : Nat} {e e' : TypeId} {w w' : World} {v : Value} {xs : List Value} (h : w.ownsRow base e k v n xs) (hk : Ktag e' w w') (hne : e ≠ e') : w'.ownsRow base e k v n xs := by
  obtain ⟨h1, h2⟩ := h
  refine ⟨h1, ?_⟩
  rcases h2 with hn | ⟨g, cap, cur, rfl, hb, hg, rest⟩
  · exact .inl hn
  · exact .inr ⟨g, cap, cur, rfl, hb, hk g cur e hg hne, rest⟩

theorem OwnS.ktag {α : Type} {E : Rp α} (G : ∀ {u u' : World} {zs : List Value} {x : α}, E u (fun _ => False) zs x → E u' (fun _ => False) zs x) {e e' : TypeId} {k base : Nat} {w w' : World} {v : Value} {l : List α} (h : OwnS E e k base w (fun _ => False) v l) (hk : Ktag e' w w') (hne : e ≠ e') : OwnS E e k base w' (fun _ => False) v l := by
  obtain ⟨xs, h1, h2, h3⟩ := h
  exact ⟨xs, ownsRow_ktag h1 hk hne, ⟨h2.1, fun i x hi => G (h2.2 i x hi)⟩, h3⟩

/-- A field of one's own: its moves are a row of one's own. -/
def flO (base : Nat) : Rp Fl := fun w _ xs f => ∃ mv, xs = [.int .i64 f.k, .int .i64 f.p, .bool f.b, mv] ∧ OwnS mvE 73 4 base w (fun _ => False) mv f.ms

theorem flO_ktag {base : Nat} {e' : TypeId} {w w' : World} {S S' : Nat → Prop} {xs : List Value} {f : Fl} (h : flO base w S xs f) (hk : Ktag e' w w') (hne : 73 ≠ e') : flO base w' S' xs f := by
  obtain ⟨mv, rfl, ho⟩ := h
  exact ⟨mv, rfl, ho.ktag (fun h => h) hk hne⟩

theorem flO_split {base k : Nat} {w w' : World} {xs : List Value} {T : List Fl} (h : SplitS (flO base) k w (fun _ => False) xs T) (hk : Kp 0 0 w w') : SplitS (flO base) k w' (fun _ => False) xs T :=
  ⟨h.1, fun i x hi => flO_ktag (h.2 i x hi) (Ktag.of_kp (e := 42) hk) (Ne.symm tag_tm)⟩

/-- A row of fields of one's own. -/
def OwnFs (base : Nat) (w : World) (v : Value) (T : List Fl) : Prop := ∃ xs, w.ownsRow base 45 4 v T.length xs ∧ SplitS (flO base) 4 w (fun _ => False) xs T

theorem OwnFs.nil (base : Nat) (w : World) : OwnFs base w (.slice none 0 0) [] := ⟨[], World.ownsRow_nil _ _ _ _, SplitS.nil _ _ _ _⟩
theorem OwnFs.ktag {base : Nat} {e' : TypeId} {w w' : World} {v : Value} {T : List Fl} (h : OwnFs base w v T) (hk : Ktag e' w w') (hf : 45 ≠ e') (hm : 73 ≠ e') : OwnFs base w' v T := by
  obtain ⟨xs, h1, h2⟩ := h
  exact ⟨xs, ownsRow_ktag h1 hk hf, h2.1, fun i x hi => flO_ktag (h2.2 i x hi) hk hm⟩
theorem OwnFs.keep0 {base : Nat} {w w' : World} {v : Value} {T : List Fl} (h : OwnFs base w v T) (hk : Kp 0 0 w w') : OwnFs base w' v T := h.ktag (Ktag.of_kp (e := 42) hk) (Ne.symm tag_tf) (Ne.symm tag_tm)
theorem OwnFs.below {base base' : Nat} {w : World} {v : Value} {T : List Fl} (h : OwnFs base w v T) (hb : base' ≤ base) : OwnFs base' w v T := by
  obtain ⟨xs, ⟨h1, h2⟩, h3⟩ := h
  refine ⟨xs, ⟨h1, ?_⟩, h3.1, fun i x hi => ?_⟩
  · rcases h2 with hn | ⟨g, cap, cur, rfl, hb', rest⟩
    · exact .inl hn
    · exact .inr ⟨g, cap, cur, rfl, by omega, rest⟩
  · obtain ⟨mv, he, ho⟩ := h3.2 i x hi
    exact ⟨mv, he, ho.below hb⟩
theorem OwnFs.lt {base : Nat} {w : World} {v : Value} {T : List Fl} (h : OwnFs base w v T) : ∀ g, v.ownBlock = some g → base ≤ g ∧ g < w.heap.size := by
  obtain ⟨xs, h1, _⟩ := h
  exact ownsRow_lt h1
theorem OwnFs.tag {base : Nat} {w : World} {v : Value} {T : List Fl} (h : OwnFs base w v T) : ∀ g, v.ownBlock = some g → ∃ cur, w.heap[g]? = some (.cells cur 45 (0, 0)) := by
  obtain ⟨xs, h1, _⟩ := h
  exact ownsRow_tag h1

/-- One more field. -/
theorem OwnFs.snoc {base n : Nat} {w w' : World} {v' : Value} {T : List Fl} {f : Fl} {xs : List Value} {mv : Value} (hs : SplitS (flO base) 4 w (fun _ => False) xs T) (ho : w'.ownsRow base 45 4 v' (n + 1) (xs ++ [.int .i64 f.k, .int .i64 f.p, .bool f.b, mv])) (hn : T.length = n) (hk : Ktag 45 w w') (hmv : OwnS mvE 73 4 base w (fun _ => False) mv f.ms) : OwnFs base w' v' (T ++ [f]) := by
  have h1 : SplitS (flO base) 4 w (fun _ => False) (xs ++ [.int .i64 f.k, .int .i64 f.p, .bool f.b, mv]) (T ++ [f]) := hs.snoc rfl ⟨mv, rfl, hmv⟩
  refine ⟨_, ?_, h1.1, fun i x hi => flO_ktag (h1.2 i x hi) hk (Ne.symm tag_fm)⟩
  rw [List.length_append, List.length_singleton, hn]
  exact ho

/-- A row of types of one's own. -/
def OwnTs (base : Nat) (w : World) (tv : Value) (ts : List (List Fl)) : Prop :=
  ∃ fvs : List Value, fvs.length = ts.length ∧ w.ownsRow base 42 1 tv ts.length fvs ∧
    (∀ i T, ts[i]? = some T → OwnFs base w (fvs.getD i undef) T) ∧
    ∀ i j g, i < j → j < fvs.length → (fvs.getD i undef).ownBlock = some g → (fvs.getD j undef).ownBlock ≠ some g

theorem OwnTs.nil (base : Nat) (w : World) : OwnTs base w (.slice none 0 0) [] := ⟨[], rfl, World.ownsRow_nil _ _ _ _, fun i T h => by simp at h, fun i j g _ h => by simp at h⟩

theorem OwnTs.ktag {base : Nat} {e' : TypeId} {w w' : World} {tv : Value} {ts : List (List Fl)} (h : OwnTs base w tv ts) (hk : Ktag e' w w') (ht : 42 ≠ e') (hf : 45 ≠ e') (hm : 73 ≠ e') : OwnTs base w' tv ts := by
  obtain ⟨fvs, h1, h2, h3, h4⟩ := h
  exact ⟨fvs, h1, ownsRow_ktag h2 hk ht, fun i T hi => (h3 i T hi).ktag hk hf hm, h4⟩
theorem OwnTs.keep0 {base : Nat} {w w' : World} {tv : Value} {ts : List (List Fl)} (h : OwnTs base w tv ts) (hk : Kp 0 0 w w') : OwnTs base w' tv ts := h.ktag (Ktag.of_kp (e := 51) hk) tag_tp tag_fp tag_mp

theorem ownsRow_below {base base' k n : Nat} {e : TypeId} {w : World} {v : Value} {xs : List Value} (h : w.ownsRow base e k v n xs) (hb : base' ≤ base) : w.ownsRow base' e k v n xs := by
  obtain ⟨h1, h2⟩ := h
  refine ⟨h1, ?_⟩
  rcases h2 with hn | ⟨g, cap, cur, rfl, hb', rest⟩
  · exact .inl hn
  · exact .inr ⟨g, cap, cur, rfl, by omega, rest⟩
theorem OwnTs.below {base base' : Nat} {w : World} {tv : Value} {ts : List (List Fl)} (h : OwnTs base w tv ts) (hb : base' ≤ base) : OwnTs base' w tv ts := by
  obtain ⟨fvs, h1, h2, h3, h4⟩ := h
  exact ⟨fvs, h1, ownsRow_below h2 hb, fun i T hi => (h3 i T hi).below hb, h4⟩

/-- All blocks of fields' rows lie below. -/
theorem OwnTs.lt {base : Nat} {w : World} {tv : Value} {ts : List (List Fl)} (h : OwnTs base w tv ts) : ∀ g, tv.ownBlock = some g → base ≤ g ∧ g < w.heap.size := by
  obtain ⟨fvs, _, h2, _⟩ := h
  exact ownsRow_lt h2

/-- One more type, whose fields are a row not there before. -/
theorem OwnTs.snoc {base n : Nat} {w w' : World} {tv' fv : Value} {ts : List (List Fl)} {T : List Fl} {fvs : List Value} (h1 : fvs.length = ts.length) (h3 : ∀ i T, ts[i]? = some T → OwnFs base w (fvs.getD i undef) T) (h4 : ∀ i j g, i < j → j < fvs.length → (fvs.getD i undef).ownBlock = some g → (fvs.getD j undef).ownBlock ≠ some g)
    (ho : w'.ownsRow base 42 1 tv' (n + 1) (fvs ++ [fv])) (hn : ts.length = n) (hk : Ktag 42 w w') (hf : OwnFs base w fv T) (hd : ∀ i g, i < fvs.length → (fvs.getD i undef).ownBlock = some g → fv.ownBlock ≠ some g) : OwnTs base w' tv' (ts ++ [T]) := by
  have ein : ∀ i, i < fvs.length → (fvs ++ [fv]).getD i undef = fvs.getD i undef := fun i hi => by simp [List.getD, List.getElem?_append_left hi]
  have elast : (fvs ++ [fv]).getD fvs.length undef = fv := by simp [List.getD]
  refine ⟨fvs ++ [fv], by simp [h1], by rw [List.length_append, List.length_singleton, hn]; exact ho, fun i U hi => ?_, fun i j g hij hj hg => ?_⟩
  · by_cases hil : i < ts.length
    · rw [List.getElem?_append_left hil] at hi
      rw [ein i (by omega)]
      exact (h3 i U hi).ktag hk (Ne.symm tag_tf) (Ne.symm tag_tm)
    · have hie : i = ts.length := by
        have := (List.getElem?_eq_some_iff.1 hi).1
        rw [List.length_append, List.length_singleton] at this
        omega
      subst hie
      rw [List.getElem?_append_right (Nat.le_refl _), Nat.sub_self] at hi
      simp at hi
      subst hi
      rw [← h1, elast]
      exact hf.ktag hk (Ne.symm tag_tf) (Ne.symm tag_tm)
  · rw [List.length_append, List.length_singleton] at hj
    rw [ein i (by omega)] at hg
    by_cases hjl : j < fvs.length
    · rw [ein j hjl]
      exact h4 i j g hij hjl hg
    · have : j = fvs.length := by omega
      subst this
      rw [elast]
      exact hd i g (by omega) hg

/-- Declarations of one's own. -/
structure OwnD (base : Nat) (w : World) (tv pv : Value) (d : Dc) : Prop where
  t : OwnTs base w tv d.ts
  p : OwnS pjE 51 5 base w (fun _ => False) pv d.ps

theorem OwnD.keep0 {base : Nat} {w w' : World} {tv pv : Value} {d : Dc} (h : OwnD base w tv pv d) (hk : Kp 0 0 w w') : OwnD base w' tv pv d := ⟨h.t.keep0 hk, h.p.keep0 pjE_good hk⟩

/-- What reads off them. -/
theorem OwnFs.split {base hi : Nat} {w : World} {v : Value} {T : List Fl} (h : OwnFs base w v T) (hh : w.heap.size ≤ hi) : RdS flE 4 w (Iv base hi) v T := by
  obtain ⟨xs, h1, h2⟩ := h
  have h3 : OwnS flE 45 4 base w (fun b => Iv base hi b ∧ ∃ cur, w.heap[b]? = some (.cells cur 73 (0, 0))) v T := by
    refine ⟨xs, h1, ⟨h2.1, fun i x hx => ?_⟩, fun g hg hS => ?_⟩
    · obtain ⟨mv, he, ho⟩ := h2.2 i x hx
      refine ⟨mv, he, ?_⟩
      have ho' := ho
      obtain ⟨ys, hy, _⟩ := ho'
      exact OwnS.rd (S := fun _ => False) mvE_good ho (fun _ _ h => False.elim h) (fun g hg => ⟨⟨(ownsRow_lt hy g hg).1, Nat.lt_of_lt_of_le (ownsRow_lt hy g hg).2 hh⟩, ownsRow_tag hy g hg⟩)
    · obtain ⟨_, cur, hc⟩ := hS
      obtain ⟨cur', hc'⟩ := ownsRow_tag h1 g hg
      rw [hc] at hc'
      cases hc'
  exact h3.rd flE_good (fun b _ hb => hb.1) (fun g hg => ⟨(ownsRow_lt h1 g hg).1, Nat.lt_of_lt_of_le (ownsRow_lt h1 g hg).2 hh⟩)

theorem OwnTs.rd {base hi : Nat} {w : World} {tv : Value} {ts : List (List Fl)} (h : OwnTs base w tv ts) (hh : w.heap.size ≤ hi) : RdS tyE 1 w (Iv base hi) tv ts := by
  obtain ⟨fvs, h1, h2, h3, _⟩ := h
  obtain ⟨_, h2'⟩ := h2
  rcases h2' with ⟨rfl, hn⟩ | ⟨g, cap, cur, rfl, hb, hg, hn, hc, hs, ht⟩
  · have : ts = [] := List.eq_nil_of_length_eq_zero hn
    subst this
    exact RdS.nil _ _ _ _
  · refine ⟨some ⟨g, 0, none⟩, cap, rfl, hn, hc, (fun h => by cases h), fun _ => ⟨g, 0, rfl, ⟨hb, Nat.lt_of_lt_of_le (heap_lt hg) hh⟩, fun i T hi => ⟨[fvs.getD i undef], rfl, fun j u hu => ?_, fvs.getD i undef, rfl, (h3 i T hi).split hh⟩⟩⟩
    have hil := (List.getElem?_eq_some_iff.1 hi).1
    have hj : j = 0 := by
      have := (List.getElem?_eq_some_iff.1 hu).1
      simp at this
      omega
    subst hj
    simp at hu
    have hx : cur.toList[i]? = some u := by
      have h5 : (cur.toList.take (ts.length * 1))[i]? = some u := by
        rw [ht, ← hu]
        simp [List.getD, show i < fvs.length by omega]
      rw [List.getElem?_take] at h5
      split at h5
      · exact h5
      · cases h5
    rw [Nat.zero_add, Nat.mul_one, Nat.add_zero]
    rw [Array.getElem?_toList] at hx
    exact blk_cell hg hx

theorem OwnD.rd {base hi : Nat} {w : World} {tv pv : Value} {d : Dc} (h : OwnD base w tv pv d) (hh : w.heap.size ≤ hi) : RdD w (Iv base hi) tv pv d :=
  ⟨h.t.rd hh, h.p.rd pjE_good (fun _ _ h => False.elim h) (fun g hg => by
    obtain ⟨xs, h1, _⟩ := h.p
    exact ⟨(ownsRow_lt h1 g hg).1, Nat.lt_of_lt_of_le (ownsRow_lt h1 g hg).2 hh⟩)⟩

end Go.Proofs.Ytgokhagbknlfaaa
