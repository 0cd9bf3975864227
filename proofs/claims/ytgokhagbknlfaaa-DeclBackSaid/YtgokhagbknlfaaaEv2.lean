/-
  Events, plainly: what was read of bytes has just these bytes.
-/
import Derived.Test.YtgokhagbknlfaaaEv
namespace Go.Proofs.Ytgokhagbknlfaaa.Ev

def Bytes (l : List Int) : Prop := ∀ y ∈ l, 0 ≤ y ∧ y < 256
theorem Bytes.drop {l : List Int} (h : Bytes l) (k : Nat) : Bytes (l.drop k) := fun y hy => h y (List.mem_of_mem_drop hy)

theorem nxt_zero {l : List Int} {k : Nat} {e : Int} (h : e = 0) : Pk.nxt l k e = (l.drop k, 0) := by subst h; rfl

theorem i1_back {l : List Int} {er : Int} (hb : Bytes l) (h : (i1 (l, er)).2.2 = 0) : er = 0 ∧ l = Pk.enc (i1 (l, er)).1 ++ (i1 (l, er)).2.1 ∧ I64 (i1 (l, er)).1 ∧ Bytes (i1 (l, er)).2.1 := by
  unfold i1 Pk.rdInt at h ⊢
  simp only at h ⊢
  by_cases he : er = 0
  · simp only [if_pos he] at h ⊢
    have hn : (Pk.num l).2.2 = 0 := h
    obtain ⟨c1, _, c3, c4⟩ := Pk.num_canon hb hn
    simp only [nxt_zero hn, if_pos hn]
    refine ⟨he, ?_, ⟨c3, c4⟩, hb.drop _⟩
    rw [c1]
    exact (List.take_append_drop _ _).symm
  · simp only [if_neg he] at h
    exact absurd h he

theorem c1_back {l : List Int} {er : Int} (hb : Bytes l) (h : (c1 (l, er)).2.2 = 0) : er = 0 ∧ l = Pk.enc (c1 (l, er)).1 ++ (c1 (l, er)).2.1 ∧ 0 ≤ (c1 (l, er)).1 ∧ (c1 (l, er)).1 ≤ 64 ∧ Bytes (c1 (l, er)).2.1 := by
  unfold c1 Pk.rdCnt at h ⊢
  simp only at h ⊢
  by_cases he : er = 0
  · simp only [if_pos he] at h ⊢
    have hn : (Pk.cnt 64 l).2.2 = 0 := h
    have hr : 0 ≤ (Pk.cnt 64 l).1 ∧ (Pk.cnt 64 l).1 ≤ 64 ∧ Pk.cnt 64 l = Pk.num l ∧ (Pk.num l).2.2 = 0 := by
      by_cases hc : (Pk.num l).2.2 = 0 ∧ ((Pk.num l).1 < 0 ∨ 64 < (Pk.num l).1)
      · have : Pk.cnt 64 l = (0, 0, 3) := if_pos hc
        rw [this] at hn
        cases hn
      · have e : Pk.cnt 64 l = Pk.num l := if_neg hc
        rw [e] at hn ⊢
        exact ⟨by omega, by omega, rfl, hn⟩
    obtain ⟨h0, h1, e, hn2⟩ := hr
    obtain ⟨c1, _, c3, c4⟩ := Pk.num_canon hb hn2
    simp only [nxt_zero hn, if_pos hn]
    refine ⟨he, ?_, h0, h1, hb.drop _⟩
    rw [e, c1]
    exact (List.take_append_drop _ _).symm
  · simp only [if_neg he] at h
    exact absurd h he

theorem n1_len : ∀ (n : Nat) (l : List Int) (er : Int), (n1 n (l, er)).1.length = n
  | 0, _, _ => rfl
  | n + 1, l, er => by
    have := n1_len n (Pk.rdInt l er).2.1 (Pk.rdInt l er).2.2
    unfold n1 at this ⊢
    simp only [rdN, List.length_cons] at this ⊢
    omega

theorem n1_back : ∀ (n : Nat) (l : List Int) (er : Int), Bytes l → (n1 n (l, er)).2.2 = 0 → er = 0 ∧ l = encs (n1 n (l, er)).1 ++ (n1 n (l, er)).2.1 ∧ I64s (n1 n (l, er)).1 ∧ Bytes (n1 n (l, er)).2.1
  | 0, l, er, hb, h => ⟨h, rfl, (fun x hx => by cases hx), hb⟩
  | n + 1, l, er, hb, h => by
    have e1 : n1 (n + 1) (l, er) = ((i1 (l, er)).1 :: (n1 n (i1 (l, er)).2).1, (n1 n (i1 (l, er)).2).2) := rfl
    rw [e1] at h ⊢
    simp only at h ⊢
    have key : ∀ s : St, s = (i1 (l, er)).2 → Bytes s.1 → s.2 = 0 ∧ s.1 = encs (n1 n s).1 ++ (n1 n s).2.1 ∧ I64s (n1 n s).1 ∧ Bytes (n1 n s).2.1 := fun s hs hbs => n1_back n s.1 s.2 hbs (by rw [hs]; exact h)
    by_cases hz : (i1 (l, er)).2.2 = 0
    · obtain ⟨h1, h2, h3, h4⟩ := i1_back hb hz
      obtain ⟨_, k2, k3, k4⟩ := key _ rfl h4
      refine ⟨h1, ?_, ?_, k4⟩
      · rw [encs_cons, List.append_assoc, ← k2]
        exact h2
      · intro x hx
        rcases List.mem_cons.1 hx with rfl | hx
        · exact h3
        · exact k3 x hx
    · exfalso
      have stuck : ∀ (m : Nat) (q : List Int) (r : Int), r ≠ 0 → (n1 m (q, r)).2.2 ≠ 0 := by
        intro m
        induction m with
        | zero => intro q r hr; exact hr
        | succ m ih =>
          intro q r hr
          have e2 : n1 (m + 1) (q, r) = ((i1 (q, r)).1 :: (n1 m (i1 (q, r)).2).1, (n1 m (i1 (q, r)).2).2) := rfl
          have e3 : i1 (q, r) = (0, (q, r)) := Pk.rdInt_err hr
          rw [e2, e3]
          exact ih q r hr
      exact stuck n _ _ hz h

theorem dne_zero {l : List Int} {er : Int} (h : Pk.dne l er = 0) : er = 0 ∧ l = [] := by
  unfold Pk.dne at h
  split at h
  · cases h
  · rename_i hc
    refine ⟨h, ?_⟩
    cases l with
    | nil => rfl
    | cons x l => exact absurd ⟨h, by simp⟩ hc

/-- What is read from bytes has just these bytes. -/
theorem back {b : List Int} (hb : Bytes b) (h : err b = 0) : b = encs (nums (read b)) ∧ Fits (read b) ∧ (read b).d.length ≤ 64 := by
  obtain ⟨z11, l11⟩ := dne_zero h
  -- from the last step to the first: no error, all along
  have up : ∀ {s : St}, (i1 s).2.2 = 0 → s.2 = 0 := fun {s} hs => by
    by_cases he : s.2 = 0
    · exact he
    · have e3 : i1 s = (0, s) := Pk.rdInt_err he
      rw [e3] at hs
      exact hs
  have upc : ∀ {s : St}, (c1 s).2.2 = 0 → s.2 = 0 := fun {s} hs => by
    by_cases he : s.2 = 0
    · exact he
    · have e3 : c1 s = (0, s) := Pk.rdCnt_err he
      rw [e3] at hs
      exact hs
  have z10 : (s10 b).2.2 = 0 := up z11
  have z9 : (s9 b).2.2 = 0 := up z10
  have z8 : (s8 b).2.2 = 0 := up z9
  have z7 : (s7 b).2.2 = 0 := up z8
  have z6 : (s6 b).2.2 = 0 := up z7
  have z5 : (s5 b).2.2 = 0 := up z6
  have z4 : (s4 b).2.2 = 0 := by
    by_cases he : (s4 b).2.2 = 0
    · exact he
    · exfalso
      have stuck : ∀ (m : Nat) (q : List Int) (r : Int), r ≠ 0 → (n1 m (q, r)).2.2 ≠ 0 := by
        intro m
        induction m with
        | zero => intro q r hr; exact hr
        | succ m ih =>
          intro q r hr
          have e2 : n1 (m + 1) (q, r) = ((i1 (q, r)).1 :: (n1 m (i1 (q, r)).2).1, (n1 m (i1 (q, r)).2).2) := rfl
          have e3 : i1 (q, r) = (0, (q, r)) := Pk.rdInt_err hr
          rw [e2, e3]
          exact ih q r hr
      exact stuck _ _ _ he z5
  have z3 : (s3 b).2.2 = 0 := upc z4
  have z2 : (s2 b).2.2 = 0 := up z3
  have z1 : (s1 b).2.2 = 0 := up z2
  obtain ⟨_, e1, f1, b1⟩ := i1_back (l := b) (er := 0) hb z1
  obtain ⟨_, e2, f2, b2⟩ := i1_back (l := (s1 b).2.1) (er := (s1 b).2.2) b1 z2
  obtain ⟨_, e3, f3, b3⟩ := i1_back (l := (s2 b).2.1) (er := (s2 b).2.2) b2 z3
  obtain ⟨_, e4, f40, f4, b4⟩ := c1_back (l := (s3 b).2.1) (er := (s3 b).2.2) b3 z4
  obtain ⟨_, e5, f5, b5⟩ := n1_back (s4 b).1.toNat (s4 b).2.1 (s4 b).2.2 b4 z5
  have n5 := n1_len (s4 b).1.toNat (s4 b).2.1 (s4 b).2.2
  obtain ⟨_, e6, f6, b6⟩ := i1_back (l := (s5 b).2.1) (er := (s5 b).2.2) b5 z6
  obtain ⟨_, e7, f7, b7⟩ := i1_back (l := (s6 b).2.1) (er := (s6 b).2.2) b6 z7
  obtain ⟨_, e8, f8, b8⟩ := i1_back (l := (s7 b).2.1) (er := (s7 b).2.2) b7 z8
  obtain ⟨_, e9, f9, b9⟩ := i1_back (l := (s8 b).2.1) (er := (s8 b).2.2) b8 z9
  obtain ⟨_, e10, f10, b10⟩ := i1_back (l := (s9 b).2.1) (er := (s9 b).2.2) b9 z10
  obtain ⟨_, e11, f11, b11⟩ := i1_back (l := (s10 b).2.1) (er := (s10 b).2.2) b10 z11
  change b = Pk.enc (s1 b).1 ++ (s1 b).2.1 at e1
  change (s1 b).2.1 = Pk.enc (s2 b).1 ++ (s2 b).2.1 at e2
  change (s2 b).2.1 = Pk.enc (s3 b).1 ++ (s3 b).2.1 at e3
  change (s3 b).2.1 = Pk.enc (s4 b).1 ++ (s4 b).2.1 at e4
  change (s4 b).2.1 = encs (s5 b).1 ++ (s5 b).2.1 at e5
  change (s5 b).2.1 = Pk.enc (s6 b).1 ++ (s6 b).2.1 at e6
  change (s6 b).2.1 = Pk.enc (s7 b).1 ++ (s7 b).2.1 at e7
  change (s7 b).2.1 = Pk.enc (s8 b).1 ++ (s8 b).2.1 at e8
  change (s8 b).2.1 = Pk.enc (s9 b).1 ++ (s9 b).2.1 at e9
  change (s9 b).2.1 = Pk.enc (s10 b).1 ++ (s10 b).2.1 at e10
  change (s10 b).2.1 = Pk.enc (s11 b).1 ++ (s11 b).2.1 at e11
  change (s5 b).1.length = (s4 b).1.toNat at n5
  change 0 ≤ (s4 b).1 at f40
  change (s4 b).1 ≤ 64 at f4
  have n5' : ((s5 b).1.length : Int) = (s4 b).1 := by omega
  refine ⟨?_, ⟨f1, f2, f3, f5, f6, f7, f8, f9, f10, f11⟩, ?_⟩
  · have : encs (nums (read b)) = Pk.enc (s1 b).1 ++ (Pk.enc (s2 b).1 ++ (Pk.enc (s3 b).1 ++ (Pk.enc (s4 b).1 ++ (encs (s5 b).1 ++ (Pk.enc (s6 b).1 ++ (Pk.enc (s7 b).1 ++ (Pk.enc (s8 b).1 ++ (Pk.enc (s9 b).1 ++ (Pk.enc (s10 b).1 ++ Pk.enc (s11 b).1))))))))) := by
      simp only [nums, pre, post, read, n5', encs_append, encs_cons, encs_nil, List.append_nil, List.cons_append, List.nil_append]
    rw [this]
    conv => lhs; rw [e1, e2, e3, e4, e5, e6, e7, e8, e9, e10, e11, l11, List.append_nil]
  · change (s5 b).1.length ≤ 64
    omega

theorem c1_range (s : St) : 0 ≤ (c1 s).1 ∧ (c1 s).1 ≤ 64 := by
  unfold c1 Pk.rdCnt
  by_cases he : s.2 = 0
  · simp only [if_pos he]
    by_cases hn : (Pk.cnt 64 s.1).2.2 = 0
    · simp only [if_pos hn]
      by_cases hc : (Pk.num s.1).2.2 = 0 ∧ ((Pk.num s.1).1 < 0 ∨ 64 < (Pk.num s.1).1)
      · have : Pk.cnt 64 s.1 = (0, 0, 3) := if_pos hc
        rw [this] at hn
        cases hn
      · have e : Pk.cnt 64 s.1 = Pk.num s.1 := if_neg hc
        rw [e] at hn ⊢
        omega
    · simp only [if_neg hn]
      omega
  · simp only [if_neg he]
    omega

theorem n1_snoc : ∀ (n : Nat) (s : St), n1 (n + 1) s = ((n1 n s).1 ++ [(i1 (n1 n s).2).1], (i1 (n1 n s).2).2)
  | 0, _ => rfl
  | n + 1, s => by
    have e : ∀ m, n1 (m + 1) s = ((i1 s).1 :: (n1 m (i1 s).2).1, (n1 m (i1 s).2).2) := fun _ => rfl
    rw [e (n + 1), n1_snoc n (i1 s).2, e n]
    rfl

end Go.Proofs.Ytgokhagbknlfaaa.Ev
