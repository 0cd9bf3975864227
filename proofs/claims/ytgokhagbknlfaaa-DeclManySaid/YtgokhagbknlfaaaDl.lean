/-
  Declarations' bytes, plainly: readings put together of smaller ones; what each one reads of what was laid, of what was cut off, and of any bytes. No program is named here.
-/
import Derived.Test.YtgokhagbknlfaaaEv2
import Derived.Test.YtgokhagbknlfaaaSc
namespace Go.Proofs.Ytgokhagbknlfaaa.Dl
open Ev (St i1 encs Bytes)

/-- A reading: from a state to a thing and the state behind it. -/
abbrev Rd (α : Type) := St → α × St

/-- A reading is right: of what was laid it reads just that; what it reads of any bytes lies there; behind a failure it reads no further; of what was cut off it says so. -/
structure Good {α : Type} (p : Rd α) (en : α → List Int) (ok : α → Prop) : Prop where
  fwd : ∀ x r, ok x → p (encs (en x) ++ r, 0) = (x, (r, 0))
  bwd : ∀ l er, Bytes l → (p (l, er)).2.2 = 0 → er = 0 ∧ l = encs (en (p (l, er)).1) ++ (p (l, er)).2.1 ∧ ok (p (l, er)).1 ∧ Bytes (p (l, er)).2.1
  stick : ∀ l er, er ≠ 0 → (p (l, er)).2 = (l, er)
  cut : ∀ x k, ok x → k < (encs (en x)).length → (p ((encs (en x)).take k, 0)).2.2 = 4

theorem Good.bwdS {α : Type} {p : Rd α} {en : α → List Int} {ok : α → Prop} (g : Good p en ok) {s : St} (hb : Bytes s.1) (h : (p s).2.2 = 0) : s.2 = 0 ∧ s.1 = encs (en (p s).1) ++ (p s).2.1 ∧ ok (p s).1 ∧ Bytes (p s).2.1 := g.bwd s.1 s.2 hb h
theorem Good.stickS {α : Type} {p : Rd α} {en : α → List Int} {ok : α → Prop} (g : Good p en ok) {s : St} (h : s.2 ≠ 0) : (p s).2 = s := g.stick s.1 s.2 h

/-- A number. -/
theorem int_good : Good i1 (fun n => [n]) Ev.I64 := by
  refine ⟨fun x r h => ?_, fun l er hb h => ?_, fun l er h => ?_, fun x k h hk => ?_⟩
  · rw [Ev.encs_cons, Ev.encs_nil, List.append_nil]
    exact Ev.i1_enc h r
  · obtain ⟨h1, h2, h3, h4⟩ := Ev.i1_back hb h
    refine ⟨h1, ?_, h3, h4⟩
    rw [Ev.encs_cons, Ev.encs_nil, List.append_nil]
    exact h2
  · have e : i1 (l, er) = (0, (l, er)) := Pk.rdInt_err h
    rw [e]
  · rw [Ev.encs_cons, Ev.encs_nil, List.append_nil] at hk ⊢
    have := Pk.num_cut h.1 h.2 hk
    unfold i1 Pk.rdInt
    simp only [this]
    simp [Pk.nxt]

/-- A number from 0 to most. -/
def cn (most : Int) : Rd Int := fun s => Pk.rdCnt most s.1 s.2
theorem cn_good (most : Int) (hm : most ≤ 9223372036854775807) : Good (cn most) (fun n => [n]) (fun n => 0 ≤ n ∧ n ≤ most) := by
  refine ⟨fun x r h => ?_, fun l er hb h => ?_, fun l er h => ?_, fun x k h hk => ?_⟩
  · rw [Ev.encs_cons, Ev.encs_nil, List.append_nil]
    have e := Pk.num_enc (n := x) (by omega) (by omega) r
    have e2 : Pk.cnt most (Pk.enc x ++ r) = (x, (Pk.enc x).length, 0) := by
      rw [Pk.cnt_ok (by rw [e]) (by rw [e]; exact h.1) (by rw [e]; exact h.2), e]
    unfold cn Pk.rdCnt
    simp only [e2]
    simp [Pk.nxt]
  · rw [Ev.encs_cons, Ev.encs_nil, List.append_nil]
    unfold cn Pk.rdCnt at h ⊢
    simp only at h ⊢
    by_cases he : er = 0
    · simp only [if_pos he] at h ⊢
      have hn : (Pk.cnt most l).2.2 = 0 := h
      have hr : 0 ≤ (Pk.cnt most l).1 ∧ (Pk.cnt most l).1 ≤ most ∧ Pk.cnt most l = Pk.num l ∧ (Pk.num l).2.2 = 0 := by
        by_cases hc : (Pk.num l).2.2 = 0 ∧ ((Pk.num l).1 < 0 ∨ most < (Pk.num l).1)
        · have : Pk.cnt most l = (0, 0, 3) := if_pos hc
          rw [this] at hn
          cases hn
        · have e : Pk.cnt most l = Pk.num l := if_neg hc
          rw [e] at hn ⊢
          exact ⟨by omega, by omega, rfl, hn⟩
      obtain ⟨h0, h1, e, hn2⟩ := hr
      obtain ⟨c1, _, c3, c4⟩ := Pk.num_canon hb hn2
      simp only [Ev.nxt_zero hn, if_pos hn]
      refine ⟨he, ?_, ⟨h0, h1⟩, hb.drop _⟩
      rw [e, c1]
      exact (List.take_append_drop _ _).symm
    · simp only [if_neg he] at h
      exact absurd h he
  · have e : cn most (l, er) = (0, (l, er)) := Pk.rdCnt_err h
    rw [e]
  · rw [Ev.encs_cons, Ev.encs_nil, List.append_nil] at hk ⊢
    have e := Pk.num_cut (n := x) (by omega) (by omega) hk
    have e2 : Pk.cnt most ((Pk.enc x).take k) = (0, 0, 4) := by
      rw [Pk.cnt_err (by rw [e]; decide), e]
    unfold cn Pk.rdCnt
    simp only [e2]
    simp [Pk.nxt]

theorem cn_range (most : Int) (hm : 0 ≤ most) (s : St) : 0 ≤ (cn most s).1 ∧ (cn most s).1 ≤ most := by
  unfold cn Pk.rdCnt
  by_cases he : s.2 = 0
  · simp only [if_pos he]
    by_cases hn : (Pk.cnt most s.1).2.2 = 0
    · simp only [if_pos hn]
      by_cases hc : (Pk.num s.1).2.2 = 0 ∧ ((Pk.num s.1).1 < 0 ∨ most < (Pk.num s.1).1)
      · have : Pk.cnt most s.1 = (0, 0, 3) := if_pos hc
        rw [this] at hn
        cases hn
      · have e : Pk.cnt most s.1 = Pk.num s.1 := if_neg hc
        rw [e] at hn ⊢
        omega
    · simp only [if_neg hn]
      omega
  · simp only [if_neg he]
    omega

/-- One behind the other. -/
def two {α β : Type} (p : Rd α) (q : Rd β) : Rd (α × β) := fun s => (((p s).1, (q (p s).2).1), (q (p s).2).2)

theorem two_good {α β : Type} {p : Rd α} {q : Rd β} {en : α → List Int} {en' : β → List Int} {ok : α → Prop} {ok' : β → Prop} (g : Good p en ok) (h : Good q en' ok') :
    Good (two p q) (fun x => en x.1 ++ en' x.2) (fun x => ok x.1 ∧ ok' x.2) := by
  refine ⟨fun x r hx => ?_, fun l er hb h0 => ?_, fun l er he => ?_, fun x k hx hk => ?_⟩
  · unfold two
    rw [Ev.encs_append, List.append_assoc, g.fwd _ _ hx.1]
    dsimp only
    rw [h.fwd _ _ hx.2]
  · unfold two at h0 ⊢
    dsimp only at h0 ⊢
    have h1 : (p (l, er)).2.2 = 0 := by
      by_cases hz : (p (l, er)).2.2 = 0
      · exact hz
      · rw [h.stickS hz] at h0
        exact h0
    obtain ⟨a1, a2, a3, a4⟩ := g.bwd l er hb h1
    obtain ⟨_, b2, b3, b4⟩ := h.bwdS a4 h0
    refine ⟨a1, ?_, ⟨a3, b3⟩, b4⟩
    rw [Ev.encs_append, List.append_assoc, ← b2]
    exact a2
  · unfold two
    dsimp only
    have e := g.stick l er he
    rw [e]
    exact h.stick l er he
  · unfold two
    dsimp only
    rw [Ev.encs_append] at hk ⊢
    rw [List.length_append] at hk
    by_cases hlt : k < (encs (en x.1)).length
    · rw [List.take_append_of_le_length (by omega)]
      have e := g.cut x.1 k hx.1 hlt
      rw [h.stickS (by rw [e]; decide), e]
    · have e : (encs (en x.1) ++ encs (en' x.2)).take k = encs (en x.1) ++ (encs (en' x.2)).take (k - (encs (en x.1)).length) := by
        rw [List.take_append, List.take_of_length_le (by omega)]
      rw [e, g.fwd _ _ hx.1]
      dsimp only
      exact h.cut x.2 _ hx.2 (by omega)

/-- The same, told otherwise. -/
def as {α β : Type} (f : α → β) (p : Rd α) : Rd β := fun s => (f (p s).1, (p s).2)

theorem as_good {α β : Type} {p : Rd α} {en : α → List Int} {ok : α → Prop} (g : Good p en ok) (f : α → β) (b : β → α) {ok' : β → Prop} (hfb : ∀ x, f (b x) = x) (hbf : ∀ x, ok x → b (f x) = x) (h1 : ∀ x, ok' x → ok (b x)) (h2 : ∀ x, ok x → ok' (f x)) :
    Good (as f p) (fun x => en (b x)) ok' := by
  refine ⟨fun x r hx => ?_, fun l er hb h0 => ?_, fun l er he => ?_, fun x k hx hk => ?_⟩
  · unfold as
    rw [g.fwd _ _ (h1 x hx)]
    dsimp only
    rw [hfb]
  · obtain ⟨a1, a2, a3, a4⟩ := g.bwd l er hb h0
    refine ⟨a1, ?_, h2 _ a3, a4⟩
    unfold as
    dsimp only
    rw [hbf _ a3]
    exact a2
  · exact g.stick l er he
  · exact g.cut (b x) k (h1 x hx) hk

/-- So many. -/
def rep {α : Type} (p : Rd α) : Nat → Rd (List α)
  | 0, s => ([], s)
  | n + 1, s => ((p s).1 :: (rep p n (p s).2).1, (rep p n (p s).2).2)

theorem rep_len {α : Type} (p : Rd α) : ∀ (n : Nat) (s : St), (rep p n s).1.length = n
  | 0, _ => rfl
  | n + 1, s => by
    have := rep_len p n (p s).2
    simp only [rep, List.length_cons]
    omega
theorem rep_snoc {α : Type} (p : Rd α) : ∀ (n : Nat) (s : St), rep p (n + 1) s = ((rep p n s).1 ++ [(p (rep p n s).2).1], (p (rep p n s).2).2)
  | 0, _ => rfl
  | n + 1, s => by
    have e : ∀ m, rep p (m + 1) s = ((p s).1 :: (rep p m (p s).2).1, (rep p m (p s).2).2) := fun _ => rfl
    rw [e (n + 1), rep_snoc p n (p s).2, e n]
    rfl

theorem rep_good {α : Type} {p : Rd α} {en : α → List Int} {ok : α → Prop} (g : Good p en ok) : ∀ n, Good (rep p n) (fun l => l.flatMap en) (fun l => l.length = n ∧ ∀ x ∈ l, ok x)
  | 0 => by
    refine ⟨fun x r h => ?_, fun l er hb h => ⟨h, rfl, ⟨rfl, fun x hx => by cases hx⟩, hb⟩, fun l er h => rfl, fun x k h hk => ?_⟩
    · obtain rfl := List.eq_nil_of_length_eq_zero h.1
      rfl
    · obtain rfl := List.eq_nil_of_length_eq_zero h.1
      exact absurd hk (Nat.not_lt_zero _)
  | n + 1 => by
    have g2 := two_good g (rep_good g n)
    refine ⟨fun x r h => ?_, fun l er hb h => ?_, fun l er h => g2.stick l er h, fun x k h hk => ?_⟩
    · match x, h with
      | x :: l, ⟨hl, hx⟩ =>
        have := g2.fwd (x, l) r ⟨hx x (List.mem_cons_self ..), by simpa using hl, fun y hy => hx y (List.mem_cons_of_mem _ hy)⟩
        simp only [two, Prod.mk.injEq] at this
        rw [List.flatMap_cons, rep]
        obtain ⟨⟨e1, e2⟩, e3⟩ := this
        rw [e1, e2, e3]
    · obtain ⟨a1, a2, ⟨a3, a4, a5⟩, a6⟩ := g2.bwd l er hb h
      refine ⟨a1, a2, ⟨?_, fun x hx => ?_⟩, a6⟩
      · exact rep_len p (n + 1) _
      · rcases List.mem_cons.1 hx with rfl | hx
        · exact a3
        · exact a5 x hx
    · match x, h with
      | x :: l, ⟨hl, hx⟩ => exact g2.cut (x, l) k ⟨hx x (List.mem_cons_self ..), by simpa using hl, fun y hy => hx y (List.mem_cons_of_mem _ hy)⟩ hk

/-- A list: its length, then so many. -/
def row {α : Type} (most : Int) (p : Rd α) : Rd (List α) := fun s => rep p (cn most s).1.toNat (cn most s).2

theorem row_good {α : Type} {p : Rd α} {en : α → List Int} {ok : α → Prop} (g : Good p en ok) (most : Int) (hm : 0 ≤ most) (hM : most ≤ 9223372036854775807) :
    Good (row most p) (fun l => (l.length : Int) :: l.flatMap en) (fun l => (l.length : Int) ≤ most ∧ ∀ x ∈ l, ok x) := by
  have hc := cn_good most hM
  refine ⟨fun x r h => ?_, fun l er hb h0 => ?_, fun l er he => ?_, fun x k h hk => ?_⟩
  · unfold row
    have e := hc.fwd (x.length : Int) (encs (x.flatMap en) ++ r) ⟨Int.natCast_nonneg _, h.1⟩
    rw [Ev.encs_cons, Ev.encs_nil, List.append_nil] at e
    rw [Ev.encs_cons, List.append_assoc, e]
    exact (rep_good g x.length).fwd x r ⟨rfl, h.2⟩
  · unfold row at h0 ⊢
    have gr := rep_good g (cn most (l, er)).1.toNat
    have h1 : (cn most (l, er)).2.2 = 0 := by
      by_cases hz : (cn most (l, er)).2.2 = 0
      · exact hz
      · rw [gr.stickS hz] at h0
        exact h0
    obtain ⟨a1, a2, a3, a4⟩ := hc.bwd l er hb h1
    obtain ⟨_, b2, ⟨b3, b5⟩, b4⟩ := gr.bwdS a4 h0
    rw [Ev.encs_cons, Ev.encs_nil, List.append_nil] at a2
    refine ⟨a1, ?_, ⟨by omega, b5⟩, b4⟩
    rw [Ev.encs_cons, show ((rep p (cn most (l, er)).1.toNat (cn most (l, er)).2).1.length : Int) = (cn most (l, er)).1 by omega, List.append_assoc, ← b2]
    exact a2
  · unfold row
    have e := hc.stick l er he
    rw [(rep_good g _).stickS (by rw [e]; exact he), e]
  · unfold row
    have ee : encs ((x.length : Int) :: x.flatMap en) = encs [(x.length : Int)] ++ encs (x.flatMap en) := by rw [Ev.encs_cons, Ev.encs_cons, Ev.encs_nil, List.append_nil]
    rw [ee] at hk ⊢
    rw [List.length_append] at hk
    by_cases hlt : k < (encs [(x.length : Int)]).length
    · rw [List.take_append_of_le_length (by omega)]
      have e := hc.cut (x.length : Int) k ⟨Int.natCast_nonneg _, h.1⟩ hlt
      rw [(rep_good g _).stickS (by rw [e]; decide), e]
    · have e : (encs [(x.length : Int)] ++ encs (x.flatMap en)).take k = encs [(x.length : Int)] ++ (encs (x.flatMap en)).take (k - (encs [(x.length : Int)]).length) := by
        rw [List.take_append, List.take_of_length_le (by omega)]
      rw [e, hc.fwd _ _ ⟨Int.natCast_nonneg _, h.1⟩]
      dsimp only
      exact (rep_good g x.length).cut x _ ⟨rfl, h.2⟩ (by omega)

/-! The pieces of declarations. -/

/-- A boolean. -/
def boolR : Rd Bool := as (fun n => n == 1) (cn 1)
def enB (b : Bool) : List Int := [if b then 1 else 0]
theorem bool_good : Good boolR enB (fun _ => True) := by
  refine as_good (cn_good 1 (by omega)) (fun n => n == 1) (fun b => if b then 1 else 0) (fun x => by cases x <;> rfl) (fun x hx => ?_) (fun x _ => by cases x <;> decide) (fun _ _ => trivial)
  have : x = 0 ∨ x = 1 := by omega
  rcases this with rfl | rfl <;> rfl

/-- A move; a field; a type; a projection. -/
def mvR : Rd Mv := as (fun x => ⟨x.1, x.2.1, x.2.2.1, x.2.2.2⟩) (two i1 (two i1 (two i1 i1)))
def enM (m : Mv) : List Int := [m.f, m.t, m.n, m.l]
theorem mv_good : Good mvR enM Sc.FitsM :=
  as_good (two_good int_good (two_good int_good (two_good int_good int_good))) (fun x => (⟨x.1, x.2.1, x.2.2.1, x.2.2.2⟩ : Mv)) (fun m : Mv => (m.f, m.t, m.n, m.l)) (fun _ => rfl) (fun _ _ => rfl) (fun _ h => h) (fun _ h => h)

def flR : Rd Fl := as (fun x => ⟨x.1, x.2.1, x.2.2.1, x.2.2.2⟩) (two i1 (two i1 (two boolR (row 16 mvR))))
def enF (f : Fl) : List Int := [f.k, f.p] ++ enB f.b ++ ((f.ms.length : Int) :: f.ms.flatMap enM)
def OkF (f : Fl) : Prop := Sc.FitsF f ∧ f.ms.length ≤ 16
theorem fl_good : Good flR enF OkF :=
  as_good (two_good int_good (two_good int_good (two_good bool_good (row_good mv_good 16 (by omega) (by omega))))) (fun x => (⟨x.1, x.2.1, x.2.2.1, x.2.2.2⟩ : Fl)) (fun f : Fl => (f.k, f.p, f.b, f.ms)) (fun _ => rfl) (fun _ _ => rfl) (fun f h => ⟨h.1.1, h.1.2.1, trivial, by have := h.2; dsimp only; omega, h.1.2.2⟩) (fun x h => ⟨⟨h.1, h.2.1, h.2.2.2.2⟩, by have := h.2.2.2.1; dsimp only; omega⟩)

def tyR : Rd (List Fl) := row 8 flR
def enT (t : List Fl) : List Int := (t.length : Int) :: t.flatMap enF
def OkT (t : List Fl) : Prop := (t.length : Int) ≤ 8 ∧ ∀ f ∈ t, OkF f
theorem ty_good : Good tyR enT OkT := row_good fl_good 8 (by omega) (by omega)

def pjR : Rd Pj := as (fun x => ⟨x.1, x.2.1, x.2.2.1, x.2.2.2.1, x.2.2.2.2⟩) (two i1 (two i1 (two i1 (two i1 i1))))
def enP (p : Pj) : List Int := [p.t, p.f, p.g, p.b, p.m]
theorem pj_good : Good pjR enP Sc.FitsP :=
  as_good (two_good int_good (two_good int_good (two_good int_good (two_good int_good int_good)))) (fun x => (⟨x.1, x.2.1, x.2.2.1, x.2.2.2.1, x.2.2.2.2⟩ : Pj)) (fun p : Pj => (p.t, p.f, p.g, p.b, p.m)) (fun _ => rfl) (fun _ _ => rfl) (fun _ h => h) (fun _ h => h)

/-- Declarations. -/
def dcR : Rd Dc := as (fun x => ⟨x.1, x.2⟩) (two (row 8 tyR) (row 8 pjR))
def nums (d : Dc) : List Int := ((d.ts.length : Int) :: d.ts.flatMap enT) ++ ((d.ps.length : Int) :: d.ps.flatMap enP)
def OkD (d : Dc) : Prop := ((d.ts.length : Int) ≤ 8 ∧ ∀ t ∈ d.ts, OkT t) ∧ ((d.ps.length : Int) ≤ 8 ∧ ∀ p ∈ d.ps, Sc.FitsP p)
theorem dc_good : Good dcR nums OkD :=
  as_good (two_good (row_good ty_good 8 (by omega) (by omega)) (row_good pj_good 8 (by omega) (by omega))) (fun x => (⟨x.1, x.2⟩ : Dc)) (fun d : Dc => (d.ts, d.ps)) (fun _ => rfl) (fun _ _ => rfl) (fun _ h => h) (fun _ h => h)

/-- Has a list more than it may? -/
def manyF (f : Fl) : Bool := decide (16 < f.ms.length)
def manyT (t : List Fl) : Bool := decide (8 < t.length) || t.any manyF
def many (d : Dc) : Bool := decide (8 < d.ts.length) || decide (8 < d.ps.length) || d.ts.any manyT

theorem ok_of {d : Dc} (h : Sc.Fits d) (hm : many d = false) : OkD d := by
  unfold many at hm
  simp only [Bool.or_eq_false_iff, decide_eq_false_iff_not, List.any_eq_false, Nat.not_lt] at hm
  obtain ⟨⟨h1, h2⟩, h3⟩ := hm
  refine ⟨⟨by omega, fun t ht => ?_⟩, by omega, h.2⟩
  have h4 := h3 t ht
  unfold manyT at h4
  simp only [Bool.not_eq_true, Bool.or_eq_false_iff, decide_eq_false_iff_not, List.any_eq_false, Nat.not_lt] at h4
  refine ⟨by omega, fun f hf => ⟨h.1 t ht f hf, ?_⟩⟩
  have h5 := h4.2 f hf
  unfold manyF at h5
  simpa using h5
theorem many_of {d : Dc} (h : OkD d) : many d = false := by
  unfold many
  simp only [Bool.or_eq_false_iff, decide_eq_false_iff_not, List.any_eq_false, Nat.not_lt]
  obtain ⟨⟨h1, h2⟩, h3, _⟩ := h
  refine ⟨⟨by omega, by omega⟩, fun t ht => ?_⟩
  obtain ⟨h4, h5⟩ := h2 t ht
  unfold manyT
  simp only [Bool.not_eq_true, Bool.or_eq_false_iff, decide_eq_false_iff_not, List.any_eq_false, Nat.not_lt]
  refine ⟨by omega, fun f hf => ?_⟩
  have := (h5 f hf).2
  unfold manyF
  simpa using this
theorem fits_of {d : Dc} (h : OkD d) : Sc.Fits d := ⟨fun t ht f hf => ((h.1.2 t ht).2 f hf).1, h.2.2⟩

/-- Put. -/
def put (d : Dc) : List Int × Int := if many d = true then ([], 3) else (encs (nums d), 0)
/-- The state behind the reading; Get. -/
def err (b : List Int) : Int := Pk.dne (dcR (b, 0)).2.1 (dcR (b, 0)).2.2
def get (b : List Int) : Dc × Int := if err b = 0 then ((dcR (b, 0)).1, 0) else (⟨[], []⟩, err b)

/-- There and back; a byte more; a byte less. -/
theorem get_put {d : Dc} (h : OkD d) : get (encs (nums d)) = (d, 0) := by
  have e := dc_good.fwd d [] h
  rw [List.append_nil] at e
  unfold get err
  rw [e]
  rfl
theorem get_more {d : Dc} (h : OkD d) (x : Int) : get (encs (nums d) ++ [x]) = (⟨[], []⟩, 5) := by
  have e := dc_good.fwd d [x] h
  unfold get err
  rw [e]
  have e2 : Pk.dne [x] 0 = 5 := by unfold Pk.dne; rw [if_pos ⟨rfl, by simp⟩]
  dsimp only
  rw [e2]
  rfl
theorem nums_pos (d : Dc) : 0 < (encs (nums d)).length := by
  unfold nums
  rw [List.cons_append, Ev.encs_cons, List.length_append, Pk.enc_length]
  omega
theorem get_less {d : Dc} (h : OkD d) : get ((encs (nums d)).take ((encs (nums d)).length - 1)) = (⟨[], []⟩, 4) := by
  have e := dc_good.cut d ((encs (nums d)).length - 1) h (by have := nums_pos d; omega)
  unfold get err
  rw [e, Pk.dne_err (by decide)]
  rfl

/-- What is read from bytes has just these bytes. -/
theorem back {b : List Int} (hb : Bytes b) (h : err b = 0) : b = encs (nums (dcR (b, 0)).1) ∧ OkD (dcR (b, 0)).1 := by
  obtain ⟨z, l⟩ := Ev.dne_zero h
  obtain ⟨_, a2, a3, _⟩ := dc_good.bwd b 0 hb z
  rw [l, List.append_nil] at a2
  exact ⟨a2, a3⟩

end Go.Proofs.Ytgokhagbknlfaaa.Dl
