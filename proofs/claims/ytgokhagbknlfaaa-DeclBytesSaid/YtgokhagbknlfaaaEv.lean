/-
  Events, plainly: what is wrong with one, its bytes, the event that bytes are. No program is named here.
-/
import Derived.Test.YtgokhagbknlfaaaPlain2
namespace Go.Proofs.Ytgokhagbknlfaaa

/-- An event's numbers. -/
structure Evt where
  o : Int
  s : Int
  l : Int
  d : List Int
  t : Int
  a : Int
  f : Int
  p : Int
  r : Int
  k : Int

namespace Ev

def I64 (x : Int) : Prop := -9223372036854775808 ≤ x ∧ x ≤ 9223372036854775807
def I64s (l : List Int) : Prop := ∀ x ∈ l, I64 x

/-- The event of noughts. -/
def zero : Evt := ⟨0, 0, 0, [], 0, 0, 0, 0, 0, 0⟩

/-- All numbers are ints. -/
structure Fits (e : Evt) : Prop where
  o : I64 e.o
  s : I64 e.s
  l : I64 e.l
  d : I64s e.d
  t : I64 e.t
  a : I64 e.a
  f : I64 e.f
  p : I64 e.p
  r : I64 e.r
  k : I64 e.k

/-- Check. -/
def check (e : Evt) (n : Int) : Int :=
  if e.o < 0 ∨ n ≤ e.o ∨ e.s < 1 ∨ e.l < 1 ∨ e.a < 0 ∨ e.k < 0 ∨ (e.d.length : Int) ≠ n then 1
  else if ∃ x ∈ e.d, x < 0 then 1
  else if e.d.getD e.o.toNat 0 ≠ e.s - 1 then 9
  else if e.p < 1 ∨ 5 < e.p then 2
  else if e.t < 0 ∨ 7 < e.t ∨ e.f < 0 ∨ 7 < e.f then 8
  else 0

/-- Numbers, one behind the other. -/
def encs (l : List Int) : List Int := l.flatMap Pk.enc

theorem encs_nil : encs [] = [] := rfl
theorem encs_cons (x : Int) (l : List Int) : encs (x :: l) = Pk.enc x ++ encs l := rfl
theorem encs_append (a b : List Int) : encs (a ++ b) = encs a ++ encs b := List.flatMap_append ..
theorem encs_snoc (a : List Int) (x : Int) : encs (a ++ [x]) = encs a ++ Pk.enc x := by rw [encs_append, encs_cons, encs_nil, List.append_nil]

theorem enc_len {n : Int} (h : I64 n) : 1 ≤ (Pk.enc n).length ∧ (Pk.enc n).length ≤ 9 := by
  have := Pk.sz_le (u := n.natAbs) (by unfold I64 at h; omega)
  rw [Pk.enc_length]
  omega

theorem encs_len : ∀ {l : List Int}, I64s l → l.length ≤ (encs l).length ∧ (encs l).length ≤ 9 * l.length
  | [], _ => by simp [encs]
  | x :: l, h => by
    have h1 := enc_len (h x (List.mem_cons_self ..))
    have h2 := encs_len (l := l) fun y hy => h y (List.mem_cons_of_mem _ hy)
    rw [encs_cons, List.length_append, List.length_cons]
    omega

theorem encs_range {l : List Int} (h : I64s l) : ∀ x ∈ encs l, 0 ≤ x ∧ x < 256 := fun x hx => by
  obtain ⟨n, hn, hx⟩ := List.mem_flatMap.1 hx
  have := h n hn
  exact Pk.enc_range this.1 this.2 x hx

/-- What stands ahead of the numbers of Deps, and behind them. -/
def pre (e : Evt) : List Int := [e.o, e.s, e.l, (e.d.length : Int)]
def post (e : Evt) : List Int := [e.t, e.a, e.f, e.p, e.r, e.k]
def nums (e : Evt) : List Int := pre e ++ e.d ++ post e

/-- Put. -/
def put (e : Evt) : List Int × Int := if 64 < e.d.length then ([], 3) else (encs (nums e), 0)

/-- So many numbers, by a reader. -/
def rdN : Nat → List Int → Int → List Int × List Int × Int
  | 0, l, er => ([], l, er)
  | n + 1, l, er => ((Pk.rdInt l er).1 :: (rdN n (Pk.rdInt l er).2.1 (Pk.rdInt l er).2.2).1, (rdN n (Pk.rdInt l er).2.1 (Pk.rdInt l er).2.2).2)

/-- A reading's state. -/
abbrev St := List Int × Int
def i1 (s : St) : Int × St := Pk.rdInt s.1 s.2
def c1 (s : St) : Int × St := Pk.rdCnt 64 s.1 s.2
def n1 (n : Nat) (s : St) : List Int × St := rdN n s.1 s.2

/-- The states, step by step. -/
def s1 (b : List Int) : Int × St := i1 (b, 0)
def s2 (b : List Int) : Int × St := i1 (s1 b).2
def s3 (b : List Int) : Int × St := i1 (s2 b).2
def s4 (b : List Int) : Int × St := c1 (s3 b).2
def s5 (b : List Int) : List Int × St := n1 (s4 b).1.toNat (s4 b).2
def s6 (b : List Int) : Int × St := i1 (s5 b).2
def s7 (b : List Int) : Int × St := i1 (s6 b).2
def s8 (b : List Int) : Int × St := i1 (s7 b).2
def s9 (b : List Int) : Int × St := i1 (s8 b).2
def s10 (b : List Int) : Int × St := i1 (s9 b).2
def s11 (b : List Int) : Int × St := i1 (s10 b).2

/-- What is read. -/
def read (b : List Int) : Evt := ⟨(s1 b).1, (s2 b).1, (s3 b).1, (s5 b).1, (s6 b).1, (s7 b).1, (s8 b).1, (s9 b).1, (s10 b).1, (s11 b).1⟩

/-- The error behind it. -/
def err (b : List Int) : Int := Pk.dne (s11 b).2.1 (s11 b).2.2

/-- Get. -/
def get (b : List Int) : Evt × Int := if err b = 0 then (read b, 0) else (zero, err b)

/-! What was laid is read. -/

theorem i1_enc {n : Int} (h : I64 n) (r : List Int) : i1 (Pk.enc n ++ r, 0) = (n, (r, 0)) := by
  have e := Pk.num_enc h.1 h.2 r
  unfold i1 Pk.rdInt
  simp only [e]
  simp [Pk.nxt]

theorem c1_enc {n : Int} (h0 : 0 ≤ n) (h1 : n ≤ 64) (r : List Int) : c1 (Pk.enc n ++ r, 0) = (n, (r, 0)) := by
  have e := Pk.num_enc (n := n) (by omega) (by omega) r
  have e2 : Pk.cnt 64 (Pk.enc n ++ r) = (n, (Pk.enc n).length, 0) := by
    rw [Pk.cnt_ok (by rw [e]) (by rw [e]; exact h0) (by rw [e]; exact h1), e]
  unfold c1 Pk.rdCnt
  simp only [e2]
  simp [Pk.nxt]

theorem n1_enc : ∀ (d : List Int), I64s d → ∀ r : List Int, n1 d.length (encs d ++ r, 0) = (d, (r, 0))
  | [], _, r => rfl
  | x :: d, h, r => by
    have h1 := i1_enc (h x (List.mem_cons_self ..)) (encs d ++ r)
    have h2 := n1_enc d (fun y hy => h y (List.mem_cons_of_mem _ hy)) r
    unfold n1 at h2 ⊢
    unfold i1 at h1
    rw [encs_cons, List.append_assoc, List.length_cons, rdN]
    simp only at h1 h2 ⊢
    rw [h1]
    simp only
    rw [h2]

theorem steps {e : Evt} (h : Fits e) (hd : e.d.length ≤ 64) (z : List Int) :
    s10 (encs (pre e ++ e.d ++ [e.t, e.a, e.f, e.p, e.r]) ++ z) = (e.r, (z, 0)) ∧ ∀ k st, i1 (z, 0) = (k, st) →
      read (encs (pre e ++ e.d ++ [e.t, e.a, e.f, e.p, e.r]) ++ z) = { e with k := k } ∧ err (encs (pre e ++ e.d ++ [e.t, e.a, e.f, e.p, e.r]) ++ z) = Pk.dne st.1 st.2 := by
  have eb : encs (pre e ++ e.d ++ [e.t, e.a, e.f, e.p, e.r]) ++ z = Pk.enc e.o ++ (Pk.enc e.s ++ (Pk.enc e.l ++ (Pk.enc (e.d.length : Int) ++ (encs e.d ++ (Pk.enc e.t ++ (Pk.enc e.a ++ (Pk.enc e.f ++ (Pk.enc e.p ++ (Pk.enc e.r ++ z))))))))) := by
    simp [encs_append, encs_cons, encs_nil, pre]
  generalize encs (pre e ++ e.d ++ [e.t, e.a, e.f, e.p, e.r]) ++ z = B at eb ⊢
  have x1 := (congrArg (fun q => i1 (q, 0)) eb).trans (i1_enc h.o _)
  change s1 B = _ at x1
  have x2 : s2 B = i1 (s1 B).2 := rfl
  rw [x1] at x2
  dsimp only at x2
  rw [i1_enc h.s] at x2
  have x3 : s3 B = i1 (s2 B).2 := rfl
  rw [x2] at x3
  dsimp only at x3
  rw [i1_enc h.l] at x3
  have x4 : s4 B = c1 (s3 B).2 := rfl
  rw [x3] at x4
  dsimp only at x4
  rw [c1_enc (Int.natCast_nonneg _) (by omega)] at x4
  have x5 : s5 B = n1 (s4 B).1.toNat (s4 B).2 := rfl
  rw [x4] at x5
  dsimp only at x5
  rw [Int.toNat_natCast, n1_enc e.d h.d] at x5
  have x6 : s6 B = i1 (s5 B).2 := rfl
  rw [x5] at x6
  dsimp only at x6
  rw [i1_enc h.t] at x6
  have x7 : s7 B = i1 (s6 B).2 := rfl
  rw [x6] at x7
  dsimp only at x7
  rw [i1_enc h.a] at x7
  have x8 : s8 B = i1 (s7 B).2 := rfl
  rw [x7] at x8
  dsimp only at x8
  rw [i1_enc h.f] at x8
  have x9 : s9 B = i1 (s8 B).2 := rfl
  rw [x8] at x9
  dsimp only at x9
  rw [i1_enc h.p] at x9
  have x10 : s10 B = i1 (s9 B).2 := rfl
  rw [x9] at x10
  dsimp only at x10
  rw [i1_enc h.r] at x10
  refine ⟨x10, fun k st hk => ?_⟩
  have x11 : s11 B = i1 (s10 B).2 := rfl
  rw [x10] at x11
  dsimp only at x11
  rw [hk] at x11
  unfold read err
  rw [x1, x2, x3, x5, x6, x7, x8, x9, x10, x11]
  exact ⟨rfl, rfl⟩

theorem nums_split (e : Evt) (z : List Int) : encs (nums e) ++ z = encs (pre e ++ e.d ++ [e.t, e.a, e.f, e.p, e.r]) ++ (Pk.enc e.k ++ z) := by
  simp [nums, post, encs_append, encs_cons, encs_nil]

/-- There and back. -/
theorem get_put {e : Evt} (h : Fits e) (hd : e.d.length ≤ 64) : get (encs (nums e)) = (e, 0) := by
  have e1 := nums_split e []
  rw [List.append_nil] at e1
  have := (steps h hd (Pk.enc e.k ++ [])).2 e.k ([], 0) (i1_enc h.k [])
  rw [← e1] at this
  unfold get
  rw [this.2, if_pos (by rfl), this.1]

/-- A byte more. -/
theorem get_more {e : Evt} (h : Fits e) (hd : e.d.length ≤ 64) (x : Int) : get (encs (nums e) ++ [x]) = (zero, 5) := by
  have e1 := nums_split e [x]
  have := (steps h hd (Pk.enc e.k ++ [x])).2 e.k ([x], 0) (i1_enc h.k [x])
  rw [← e1] at this
  have e2 : Pk.dne [x] 0 = 5 := by unfold Pk.dne; rw [if_pos ⟨rfl, by simp⟩]
  unfold get
  rw [this.2, e2]
  rfl

/-- A byte less. -/
theorem get_less {e : Evt} (h : Fits e) (hd : e.d.length ≤ 64) : get ((encs (nums e)).take ((encs (nums e)).length - 1)) = (zero, 4) := by
  have e1 := nums_split e []
  rw [List.append_nil, List.append_nil] at e1
  have hl := enc_len h.k
  have e3 : (encs (nums e)).take ((encs (nums e)).length - 1) = encs (pre e ++ e.d ++ [e.t, e.a, e.f, e.p, e.r]) ++ (Pk.enc e.k).take ((Pk.enc e.k).length - 1) := by
    rw [e1, List.length_append, List.take_append, List.take_of_length_le (by omega)]
    congr 2
    omega
  have e4 : i1 ((Pk.enc e.k).take ((Pk.enc e.k).length - 1), 0) = (0, ((Pk.enc e.k).take ((Pk.enc e.k).length - 1), 4)) := by
    have := Pk.num_cut h.k.1 h.k.2 (j := (Pk.enc e.k).length - 1) (by omega)
    unfold i1 Pk.rdInt
    simp only [this]
    simp [Pk.nxt]
  have := (steps h hd ((Pk.enc e.k).take ((Pk.enc e.k).length - 1))).2 0 _ e4
  rw [e3]
  unfold get
  have e5 : Pk.dne ((Pk.enc e.k).take ((Pk.enc e.k).length - 1)) 4 = 4 := Pk.dne_err (by decide)
  rw [this.2, e5]
  rfl

end Ev
end Go.Proofs.Ytgokhagbknlfaaa
