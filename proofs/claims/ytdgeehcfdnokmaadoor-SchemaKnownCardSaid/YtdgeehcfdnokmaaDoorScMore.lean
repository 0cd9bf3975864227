/-
  Declarations that a call owns, with a machine's moves replaced; with more types and projections.
-/
import Derived.Test.YtdgeehcfdnokmaaDoorScKn
namespace Go.Proofs.YtdgeehcfdnokmaaDoor
open Go.RowKit

/-- A row's cell is one of its block's. -/
theorem take_cell {cur : Array Value} {n i : Nat} {xs : List Value} {u : Value} (h : cur.toList.take n = xs) (hu : xs[i]? = some u) : cur[i]? = some u := by
  rw [← h, List.getElem?_take] at hu
  split at hu
  · rwa [Array.getElem?_toList] at hu
  · cases hu

theorem split_cell {xs ys : List Value} {i j : Nat} {u : Value} (h : (xs.drop i).take 4 = ys) (hu : ys[j]? = some u) : xs[i + j]? = some u := by
  rw [← h, List.getElem?_take] at hu
  split at hu
  · rwa [List.getElem?_drop] at hu
  · cases hu

theorem OwnD.moves {base j : Nat} {w : World} {tv pv : Value} {T : List Fl} {ps : List Pj} {F : Fl} (h : OwnD base w tv pv ⟨[T], ps⟩) (hF : T[j]? = some F) :
    ∃ tg tc g fc cur u, tv = .slice (some ⟨tg, 0, none⟩) 1 tc ∧ base ≤ g ∧ base ≤ tg ∧ w.cell? ⟨tg, 0, none⟩ = some (.slice (some ⟨g, 0, none⟩) T.length fc) ∧ w.heap[g]? = some (.cells cur 33 (0, 0)) ∧ cur[j * 4 + 3]? = some u ∧ (∃ cu, w.heap[tg]? = some (.cells cu 45 (0, 0))) ∧
      ∀ (W : World) (S : Nat → Prop) (mv : Value) (ms : List Mv), Kp g (g + 1) w W → W.heap[g]? = some (.cells (cur.setIfInBounds (j * 4 + 3) mv) 33 (0, 0)) → (∀ b, base ≤ b → b < w.heap.size → S b) → RdS mvE 4 W S mv ms → RdD W S tv pv ⟨[T.set j { F with ms := ms }], ps⟩ := by
  obtain ⟨⟨fvs, h1, h2, h3, _⟩, hp⟩ := h
  have hj := (List.getElem?_eq_some_iff.1 hF).1
  obtain ⟨fv, rfl⟩ : ∃ fv, fvs = [fv] := by
    match fvs, h1 with
    | [fv], _ => exact ⟨fv, rfl⟩
  obtain ⟨_, h2⟩ := h2
  rcases h2 with ⟨_, hn0⟩ | ⟨tg, tc, cu, rfl, tb, htg, tn, tm, _, tt⟩
  · simp at hn0
  obtain ⟨xs, ⟨_, x2⟩, hs⟩ := h3 0 T rfl
  rcases x2 with ⟨_, hn0⟩ | ⟨g, fc, cur, e, gb, hg, gn, gm, gz, gt⟩
  · omega
  change fv = _ at e
  subst e
  obtain ⟨mvj, hej, hoj⟩ := hs.2 j F hF
  have hcj : cur[j * 4 + 3]? = some mvj := take_cell gt (split_cell hej rfl)
  refine ⟨tg, tc, g, fc, cur, mvj, rfl, gb, tb, blk_cell htg (take_cell tt (by rfl)), hg, hcj, ⟨cu, htg⟩, fun W S mv ms hk hW hS hm => ?_⟩
  have hkt : Ktag 33 w W := Ktag.of_blk hg hk
  have hsz : j * 4 + 3 < cur.size := (Array.getElem?_eq_some_iff.1 hcj).1
  refine ⟨?_, ?_⟩
  · refine ⟨some ⟨tg, 0, none⟩, tc, rfl, tn, tm, (fun h => by cases h), fun _ => ⟨tg, 0, rfl, hS tg tb (heap_lt htg), fun i x hi => ?_⟩⟩
    match i, hi with
    | 0, hi =>
      simp at hi
      subst hi
      refine ⟨[.slice (some ⟨g, 0, none⟩) T.length fc], rfl, fun a u hu => ?_, _, rfl, ?_⟩
      · match a, hu with
        | 0, hu =>
          simp at hu
          subst hu
          exact blk_cell (hkt tg _ _ htg tag_tf) (take_cell tt (by rfl))
      · refine ⟨some ⟨g, 0, none⟩, fc, by rw [List.length_set], by rw [List.length_set]; exact gn, gm, (fun h => by cases h), fun _ => ⟨g, 0, rfl, hS g gb (heap_lt hg), fun i x hi => ?_⟩⟩
        by_cases hij : i = j
        · subst hij
          rw [List.getElem?_set_self hj] at hi
          cases hi
          refine ⟨[.int .i64 F.k, .int .i64 F.p, .bool F.b, mv], rfl, fun a u hu => ?_, mv, rfl, hm⟩
          refine blk_cell hW ?_
          rw [Nat.zero_add]
          match a, hu with
          | 0, hu => rw [Array.getElem?_setIfInBounds_ne (by omega)]; exact take_cell gt (split_cell hej hu)
          | 1, hu => rw [Array.getElem?_setIfInBounds_ne (by omega)]; exact take_cell gt (split_cell hej hu)
          | 2, hu => rw [Array.getElem?_setIfInBounds_ne (by omega)]; exact take_cell gt (split_cell hej hu)
          | 3, hu =>
            rw [Array.getElem?_setIfInBounds_self_of_lt hsz]
            exact hu
        · rw [List.getElem?_set_ne (fun h => hij h.symm)] at hi
          obtain ⟨mvi, hei, hoi⟩ := hs.2 i x hi
          refine ⟨[.int .i64 x.k, .int .i64 x.p, .bool x.b, mvi], rfl, fun a u hu => ?_, mvi, rfl, ?_⟩
          · have ha : a < 4 := by
              have := (List.getElem?_eq_some_iff.1 hu).1
              simpa using this
            refine blk_cell hW ?_
            rw [Nat.zero_add, Array.getElem?_setIfInBounds_ne (by omega)]
            exact take_cell gt (split_cell hei hu)
          · refine (OwnS.ktag (fun h => h) hoi hkt (Ne.symm tag_fm)).rd mvE_good (fun _ _ h => False.elim h) (fun b hb => ?_)
            obtain ⟨ys, hr, _⟩ := hoi
            exact hS b (ownsRow_lt hr b hb).1 (ownsRow_lt hr b hb).2
  · refine (OwnS.ktag (fun h => h) hp hkt (Ne.symm tag_fp)).rd pjE_good (fun _ _ h => False.elim h) (fun b hb => ?_)
    obtain ⟨ys, hr, _⟩ := hp
    exact hS b (ownsRow_lt hr b hb).1 (ownsRow_lt hr b hb).2

/-- A shop's fields, read. -/
theorem ShopAt.fields {w : World} {gm gf gp gt : Nat} {s : Shp} (h : ShopAt w gm gf gp gt s) : RdS flE 4 w (fun _ => True) (.slice (some ⟨gf, 0, none⟩) 6 6) s.fs := by
  have h1 := h.all.t.cl
  obtain ⟨b, o, fo, fc, e, _, c, _, _, hr⟩ := ty_at h1 (i := 0) (t := s.fs) rfl
  cases e
  have hc := blk_cell h.t (k := 0) (u := .slice (some ⟨gf, 0, none⟩) 6 6) rfl
  rw [Nat.add_zero] at c
  rw [hc] at c
  cases c
  exact hr

/-- A shop's copy with so many moves that need nothing. -/
def moved (n : Nat) : Dc := ⟨[Shp.std.fs.set 3 { (⟨4, 2, false, Shp.std.ms⟩ : Fl) with ms := msl n n }], Shp.std.ps⟩

theorem moved_fits (n : Nat) : Sc.Fits (moved n) := by
  refine ⟨fun t ht f hf => ?_, Shp.std_ok.2⟩
  obtain rfl := List.mem_singleton.1 ht
  rcases List.mem_or_eq_of_mem_set hf with hf | rfl
  · exact Shp.std_ok.1 _ (List.mem_singleton.2 rfl) f hf
  · exact ⟨by simp [Sc.I64], by simp [Sc.I64], msl_fits n n⟩

/-- A shop's copy with more types, and more projections. -/
def more (k : Nat) : Dc := ⟨List.replicate (k + 1) Shp.std.fs, Shp.std.ps ++ List.replicate k Shp.std.j1⟩

theorem more_fits (k : Nat) : Sc.Fits (more k) := by
  refine ⟨fun t ht f hf => ?_, fun p hp => ?_⟩
  · obtain rfl := (List.mem_replicate.1 ht).2
    exact Shp.std_ok.1 _ (List.mem_singleton.2 rfl) f hf
  · rcases List.mem_append.1 hp with hp | hp
    · exact Shp.std_ok.2 p hp
    · obtain rfl := (List.mem_replicate.1 hp).2
      exact Shp.std_ok.2 _ (by simp [Shp.dc, Shp.ps])

theorem more_rd {W : World} {base gm gf gp gt k : Nat} {tv pv fv : Value} (hT : W.ownsRow base 45 1 tv (k + 1) (fv :: List.replicate k (.slice (some ⟨gf, 0, none⟩) 6 6))) (hF : OwnFs base W fv Shp.std.fs) (hS : ShopAt W gm gf gp gt Shp.std)
    (hP : OwnS pjE 47 5 base W (fun _ => False) pv (Shp.std.ps ++ List.replicate k Shp.std.j1)) : RdD W (fun _ => True) tv pv (more k) := by
  refine ⟨?_, hP.rd pjE_good (fun _ _ h => False.elim h) (fun _ _ => trivial)⟩
  obtain ⟨_, h2⟩ := hT
  rcases h2 with ⟨_, hn0⟩ | ⟨tg, tc, cu, rfl, tb, htg, tn, tm, _, tt⟩
  · omega
  have hl : (more k).ts.length = k + 1 := by simp [more]
  refine ⟨some ⟨tg, 0, none⟩, tc, by rw [hl], by rw [hl]; exact tn, tm, (fun h => by cases h), fun _ => ⟨tg, 0, rfl, trivial, fun i x hi => ?_⟩⟩
  have hx : x = Shp.std.fs := (List.mem_replicate.1 (List.mem_of_getElem? hi)).2
  subst hx
  have hik : i < k + 1 := by
    have := (List.getElem?_eq_some_iff.1 hi).1
    rwa [hl] at this
  obtain ⟨u, hu, hr⟩ : ∃ u, (fv :: List.replicate k (Value.slice (some ⟨gf, 0, none⟩) 6 6))[i]? = some u ∧ RdS flE 4 W (fun _ => True) u Shp.std.fs := by
    match i, hik with
    | 0, _ => exact ⟨fv, rfl, (hF.split (Nat.le_refl _)).wide flE_good (by decide) (fun _ _ _ => trivial)⟩
    | j + 1, h => exact ⟨_, by rw [List.getElem?_cons_succ, List.getElem?_replicate, if_pos (by omega)], hS.fields⟩
  refine ⟨[u], rfl, fun a y hy => ?_, u, rfl, hr⟩
  match a, hy with
  | 0, hy =>
    simp at hy
    subst hy
    have := blk_cell htg (take_cell tt hu)
    simpa using this

/-- A shop's copy with more types and projections, in memory: its block, its rows. -/
def MoreAt (base qg gf : Nat) (fv : Value) (w9 wx : World) (m : Nat) : Prop := ∃ tv pv : Value, wx.heap[qg]? = some (.cells #[tv, pv] 25 (0, 0)) ∧ wx.ownsRow base 45 1 tv (m + 1) (fv :: List.replicate m (.slice (some ⟨gf, 0, none⟩) 6 6)) ∧ OwnFs base wx fv Shp.std.fs ∧ OwnS pjE 47 5 base wx (fun _ => False) pv (Shp.std.ps ++ List.replicate m Shp.std.j1) ∧ Kp 0 0 w9 wx

end Go.Proofs.YtdgeehcfdnokmaaDoor
