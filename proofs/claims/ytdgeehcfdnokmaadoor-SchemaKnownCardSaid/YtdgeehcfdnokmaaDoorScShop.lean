/-
  The shop: where it lies, what reads off it, how a number in it is turned.
-/
import Derived.Test.YtdgeehcfdnokmaaDoorScOwn
namespace Go.Proofs.YtdgeehcfdnokmaaDoor
open Go.RowKit

/-- A shop: one type of six fields (the fourth one has three moves), three projections. -/
structure Shp where
  k0 : Int
  p0 : Int
  b0 : Bool
  k1 : Int
  p1 : Int
  b1 : Bool
  k2 : Int
  p2 : Int
  b2 : Bool
  k3 : Int
  p3 : Int
  b3 : Bool
  k4 : Int
  p4 : Int
  b4 : Bool
  k5 : Int
  p5 : Int
  b5 : Bool
  m0 : Mv
  m1 : Mv
  m2 : Mv
  j0 : Pj
  j1 : Pj
  j2 : Pj
deriving DecidableEq

namespace Shp
def ms (s : Shp) : List Mv := [s.m0, s.m1, s.m2]
def fs (s : Shp) : List Fl := [⟨s.k0, s.p0, s.b0, []⟩, ⟨s.k1, s.p1, s.b1, []⟩, ⟨s.k2, s.p2, s.b2, []⟩, ⟨s.k3, s.p3, s.b3, s.ms⟩, ⟨s.k4, s.p4, s.b4, []⟩, ⟨s.k5, s.p5, s.b5, []⟩]
def ps (s : Shp) : List Pj := [s.j0, s.j1, s.j2]
def dc (s : Shp) : Dc := ⟨[s.fs], s.ps⟩

def mc (s : Shp) : Array Value := #[.int .i64 s.m0.f, .int .i64 s.m0.t, .int .i64 s.m0.n, .int .i64 s.m0.l, .int .i64 s.m1.f, .int .i64 s.m1.t, .int .i64 s.m1.n, .int .i64 s.m1.l, .int .i64 s.m2.f, .int .i64 s.m2.t, .int .i64 s.m2.n, .int .i64 s.m2.l]
def fc (s : Shp) (gm : Nat) : Array Value := #[.int .i64 s.k0, .int .i64 s.p0, .bool s.b0, .slice none 0 0, .int .i64 s.k1, .int .i64 s.p1, .bool s.b1, .slice none 0 0, .int .i64 s.k2, .int .i64 s.p2, .bool s.b2, .slice none 0 0, .int .i64 s.k3, .int .i64 s.p3, .bool s.b3, .slice (some ⟨gm, 0, none⟩) 3 3, .int .i64 s.k4, .int .i64 s.p4, .bool s.b4, .slice none 0 0, .int .i64 s.k5, .int .i64 s.p5, .bool s.b5, .slice none 0 0]
def pc (s : Shp) : Array Value := #[.int .i64 s.j0.t, .int .i64 s.j0.f, .int .i64 s.j0.g, .int .i64 s.j0.b, .int .i64 s.j0.m, .int .i64 s.j1.t, .int .i64 s.j1.f, .int .i64 s.j1.g, .int .i64 s.j1.b, .int .i64 s.j1.m, .int .i64 s.j2.t, .int .i64 s.j2.f, .int .i64 s.j2.g, .int .i64 s.j2.b, .int .i64 s.j2.m]

/-- The chapter's. -/
def std : Shp := ⟨1, 1, true, 2, 3, false, 3, 2, false, 4, 2, false, 2, 2, false, 1, 1, false, ⟨0, 1, 0, 2⟩, ⟨1, 0, -1, 0⟩, ⟨0, 2, -1, 0⟩, ⟨0, 0, 1, 0, 2⟩, ⟨0, 2, 2, 0, 1⟩, ⟨0, 5, 3, 4, 4⟩⟩
end Shp

/-- Where a shop lies. -/
structure ShopAt (w : World) (gm gf gp gt : Nat) (s : Shp) : Prop where
  m : w.heap[gm]? = some (.cells s.mc 39 (0, 0))
  f : w.heap[gf]? = some (.cells (s.fc gm) 33 (0, 0))
  p : w.heap[gp]? = some (.cells s.pc 47 (0, 0))
  t : w.heap[gt]? = some (.cells #[.slice (some ⟨gf, 0, none⟩) 6 6] 45 (0, 0))

theorem ShopAt.keep0 {w w' : World} {gm gf gp gt : Nat} {s : Shp} (h : ShopAt w gm gf gp gt s) (k : Kp 0 0 w w') : ShopAt w' gm gf gp gt s := ⟨k.heap h.m (.inr (Nat.zero_le _)), k.heap h.f (.inr (Nat.zero_le _)), k.heap h.p (.inr (Nat.zero_le _)), k.heap h.t (.inr (Nat.zero_le _))⟩

/-- A part of a block's cells. -/
theorem part_cells {w : World} {g o k : Nat} {cur : Array Value} {e : TypeId} {xs : List Value} (h : w.heap[g]? = some (.cells cur e (0, 0))) (hx : xs = (cur.toList.drop o).take k) : ∀ j u, xs[j]? = some u → w.cell? ⟨g, o + j, none⟩ = some u := by
  intro j u hu
  subst hx
  rw [List.getElem?_take] at hu
  split at hu
  · rw [List.getElem?_drop, Array.getElem?_toList] at hu
    exact blk_cell h hu
  · cases hu

theorem ShopAt.rd {w : World} {gm gf gp gt : Nat} {s : Shp} {S : Nat → Prop} (h : ShopAt w gm gf gp gt s) (h1 : S gm) (h2 : S gf) (h3 : S gp) (h4 : S gt) :
    RdD w S (.slice (some ⟨gt, 0, none⟩) 1 1) (.slice (some ⟨gp, 0, none⟩) 3 3) s.dc := by
  have hm : RdS mvE 4 w S (.slice (some ⟨gm, 0, none⟩) 3 3) s.ms := by
    refine ⟨_, _, rfl, Nat.le_refl _, by decide, (fun h => by cases h), fun _ => ⟨gm, 0, rfl, h1, fun i x hi => ?_⟩⟩
    match i, hi with
    | 0, hi => cases hi; exact ⟨[.int .i64 s.m0.f, .int .i64 s.m0.t, .int .i64 s.m0.n, .int .i64 s.m0.l], rfl, part_cells (k := 4) h.m rfl, rfl⟩
    | 1, hi => cases hi; exact ⟨[.int .i64 s.m1.f, .int .i64 s.m1.t, .int .i64 s.m1.n, .int .i64 s.m1.l], rfl, part_cells (k := 4) h.m rfl, rfl⟩
    | 2, hi => cases hi; exact ⟨[.int .i64 s.m2.f, .int .i64 s.m2.t, .int .i64 s.m2.n, .int .i64 s.m2.l], rfl, part_cells (k := 4) h.m rfl, rfl⟩
    | n + 3, hi => cases hi
  have hf : RdS flE 4 w S (.slice (some ⟨gf, 0, none⟩) 6 6) s.fs := by
    refine ⟨_, _, rfl, Nat.le_refl _, by decide, (fun h => by cases h), fun _ => ⟨gf, 0, rfl, h2, fun i x hi => ?_⟩⟩
    match i, hi with
    | 0, hi => cases hi; exact ⟨[.int .i64 s.k0, .int .i64 s.p0, .bool s.b0, .slice none 0 0], rfl, part_cells (k := 4) h.f rfl, _, rfl, RdS.nil _ _ _ _⟩
    | 1, hi => cases hi; exact ⟨[.int .i64 s.k1, .int .i64 s.p1, .bool s.b1, .slice none 0 0], rfl, part_cells (k := 4) h.f rfl, _, rfl, RdS.nil _ _ _ _⟩
    | 2, hi => cases hi; exact ⟨[.int .i64 s.k2, .int .i64 s.p2, .bool s.b2, .slice none 0 0], rfl, part_cells (k := 4) h.f rfl, _, rfl, RdS.nil _ _ _ _⟩
    | 3, hi => cases hi; exact ⟨[.int .i64 s.k3, .int .i64 s.p3, .bool s.b3, .slice (some ⟨gm, 0, none⟩) 3 3], rfl, part_cells (k := 4) h.f rfl, _, rfl, hm⟩
    | 4, hi => cases hi; exact ⟨[.int .i64 s.k4, .int .i64 s.p4, .bool s.b4, .slice none 0 0], rfl, part_cells (k := 4) h.f rfl, _, rfl, RdS.nil _ _ _ _⟩
    | 5, hi => cases hi; exact ⟨[.int .i64 s.k5, .int .i64 s.p5, .bool s.b5, .slice none 0 0], rfl, part_cells (k := 4) h.f rfl, _, rfl, RdS.nil _ _ _ _⟩
    | n + 6, hi => cases hi
  refine ⟨⟨_, _, rfl, Nat.le_refl _, by decide, (fun h => by cases h), fun _ => ⟨gt, 0, rfl, h4, fun i x hi => ?_⟩⟩, ⟨_, _, rfl, Nat.le_refl _, by decide, (fun h => by cases h), fun _ => ⟨gp, 0, rfl, h3, fun i x hi => ?_⟩⟩⟩
  · match i, hi with
    | 0, hi => cases hi; exact ⟨[.slice (some ⟨gf, 0, none⟩) 6 6], rfl, part_cells (k := 1) h.t rfl, _, rfl, hf⟩
    | n + 1, hi => cases hi
  · match i, hi with
    | 0, hi => cases hi; exact ⟨[.int .i64 s.j0.t, .int .i64 s.j0.f, .int .i64 s.j0.g, .int .i64 s.j0.b, .int .i64 s.j0.m], rfl, part_cells (k := 5) h.p rfl, rfl⟩
    | 1, hi => cases hi; exact ⟨[.int .i64 s.j1.t, .int .i64 s.j1.f, .int .i64 s.j1.g, .int .i64 s.j1.b, .int .i64 s.j1.m], rfl, part_cells (k := 5) h.p rfl, rfl⟩
    | 2, hi => cases hi; exact ⟨[.int .i64 s.j2.t, .int .i64 s.j2.f, .int .i64 s.j2.g, .int .i64 s.j2.b, .int .i64 s.j2.m], rfl, part_cells (k := 5) h.p rfl, rfl⟩
    | n + 3, hi => cases hi

/-- A number in a shop is turned: in its fields, its moves, its projections. -/
theorem ShopAt.setF {w : World} {gm gf gp gt : Nat} {s s' : Shp} (h : ShopAt w gm gf gp gt s) {k : Nat} {u : Value} (h1 : (s.fc gm).setIfInBounds k u = s'.fc gm) (h2 : s'.mc = s.mc) (h3 : s'.pc = s.pc) : ShopAt (w.setCell ⟨gf, k, none⟩ u) gm gf gp gt s' := by
  have hk := Ktag.of_set h.f k u
  refine ⟨by rw [h2]; exact hk _ _ _ h.m (Ne.symm tag_fm), ?_, by rw [h3]; exact hk _ _ _ h.p (Ne.symm tag_fp), hk _ _ _ h.t tag_tf⟩
  rw [← h1]
  exact blk_set h.f k u
theorem ShopAt.setM {w : World} {gm gf gp gt : Nat} {s s' : Shp} (h : ShopAt w gm gf gp gt s) {k : Nat} {u : Value} (h1 : s.mc.setIfInBounds k u = s'.mc) (h2 : s'.fc gm = s.fc gm) (h3 : s'.pc = s.pc) : ShopAt (w.setCell ⟨gm, k, none⟩ u) gm gf gp gt s' := by
  have hk := Ktag.of_set h.m k u
  refine ⟨?_, by rw [h2]; exact hk _ _ _ h.f tag_fm, by rw [h3]; exact hk _ _ _ h.p (Ne.symm tag_mp), hk _ _ _ h.t tag_tm⟩
  rw [← h1]
  exact blk_set h.m k u
theorem ShopAt.setP {w : World} {gm gf gp gt : Nat} {s s' : Shp} (h : ShopAt w gm gf gp gt s) {k : Nat} {u : Value} (h1 : s.pc.setIfInBounds k u = s'.pc) (h2 : s'.fc gm = s.fc gm) (h3 : s'.mc = s.mc) : ShopAt (w.setCell ⟨gp, k, none⟩ u) gm gf gp gt s' := by
  have hk := Ktag.of_set h.p k u
  refine ⟨by rw [h3]; exact hk _ _ _ h.m tag_mp, by rw [h2]; exact hk _ _ _ h.f tag_fp, ?_, hk _ _ _ h.t tag_tp⟩
  rw [← h1]
  exact blk_set h.p k u

set_option maxRecDepth 100000 in
set_option maxHeartbeats 2000000 in
theorem shop_any (w : World) : Calls Tryd.prog 19 #[] w fun r w' => ∃ gm gf gp gt, r = .returned (.agg #[.slice (some ⟨gt, 0, none⟩) 1 1, .slice (some ⟨gp, 0, none⟩) 3 3]) ∧ ShopAt w' gm gf gp gt Shp.std ∧ (w.heap.size ≤ gm ∧ w.heap.size ≤ gf ∧ w.heap.size ≤ gp ∧ w.heap.size ≤ gt) ∧ Kp 0 0 w w' := by
  go_enter Tryd.func19, Tryd.ntmps19
  go_wp2_with fail
  try simp only [Exit.inBlock, Exit.then]
  refine bodyPost_ret (by simp [results, Tryd.results19, go_sem]; try rfl) rfl ?_
  refine ⟨w.heap.size + 1, w.heap.size + 1 + 1, w.heap.size + 1 + 1 + 1, w.heap.size + 1 + 1 + 1 + 1, rfl, ⟨?_, ?_, ?_, ?_⟩, by omega, ((((Kp.refl _ _ _).alloc _).alloc _).alloc _).alloc _ |>.alloc _⟩
  · exact blk_old (blk_old (blk_old (blk_two w _ _) _) _) _
  · exact blk_old (blk_old (blk_three w _ _ _) _) _
  · exact blk_old (blk_four w _ _ _ _) _
  · exact blk_five w _ _ _ _ _

end Go.Proofs.YtdgeehcfdnokmaaDoor
