/-
  Frames, plainly, more: what comes out of a frame's bytes, whole, cut off, or with one byte turned.
-/
import Derived.Test.YtpdkfafnffihjaaDoorFr
namespace Go.Proofs.YtpdkfafnffihjaaDoor.Fr

/-- The bytes of a frame, cell by cell at the head. -/
theorem enc_cons (k : Nat) (b : List Nat) (r : List Nat) : enc k b ++ r = k :: b.length / 65536 :: b.length / 256 % 256 :: b.length % 256 :: (b ++ (tail k b ++ r)) := by
  simp [enc, hb, head]

theorem blen_cons (k x1 x2 x3 : Nat) (r : List Nat) : blen (k :: x1 :: x2 :: x3 :: r) = 65536 * x1 + 256 * x2 + x3 := rfl
theorem body_cons (k x1 x2 x3 : Nat) (r : List Nat) : body (k :: x1 :: x2 :: x3 :: r) = r.take (65536 * x1 + 256 * x2 + x3) := rfl

theorem len_three {n : Nat} (_hn : n ≤ 65536) : 65536 * (n / 65536) + 256 * (n / 256 % 256) + n % 256 = n := by omega

/-- There and back. -/
theorem get_enc {k : Nat} {b : List Nat} (r : List Nat) (hk : k ≠ 0) (hb : b.length ≤ 65536) : get (enc k b ++ r) = (k, b, b.length + 9, 0) := by
  have hl := enc_len k b
  have e1 : blen (enc k b ++ r) = b.length := by rw [enc_cons, blen_cons, len_three hb]
  have e2 : body (enc k b ++ r) = b := by rw [enc_cons, body_cons, len_three hb, List.take_left]
  have e0 : (enc k b ++ r).getD 0 0 = k := by rw [enc_cons]; rfl
  have hlen : (enc k b ++ r).length = b.length + 9 + r.length := by rw [List.length_append, hl]
  unfold get
  rw [if_neg (by omega), e0, if_neg hk, e1, if_neg (by omega), if_neg (by omega), e2, if_pos]
  rw [← hl, List.take_left]

theorem get_enc0 {k : Nat} {b : List Nat} (hk : k ≠ 0) (hb : b.length ≤ 65536) : get (enc k b) = (k, b, b.length + 9, 0) := by
  have := get_enc (r := []) hk hb
  rwa [List.append_nil] at this

/-- A frame that is cut off is told as too short. -/
theorem get_cut {k : Nat} {b : List Nat} {m : Nat} (hk : k ≠ 0) (hb : b.length ≤ 65536) (hm : m < b.length + 9) : get ((enc k b).take m) = (0, [], 0, 4) := by
  have hl := enc_len k b
  have hlen : ((enc k b).take m).length = m := by rw [List.length_take]; omega
  unfold get
  by_cases h4 : m < 4
  · rw [if_pos (by omega)]
  · have e : (enc k b).take m = k :: b.length / 65536 :: b.length / 256 % 256 :: b.length % 256 :: (b ++ tail k b).take (m - 4) := by
      have h := enc_cons k b []
      rw [List.append_nil, List.append_nil] at h
      rw [h]
      obtain ⟨q, rfl⟩ : ∃ q, m = q + 4 := ⟨m - 4, by omega⟩
      simp
    have e1 : blen ((enc k b).take m) = b.length := by rw [e, blen_cons, len_three hb]
    have e0 : ((enc k b).take m).getD 0 0 = k := by rw [e]; rfl
    rw [if_neg (by omega), e0, if_neg hk, e1, if_neg (by omega), if_pos (by omega)]

/-- One of the five bytes behind the body that is another one is told. -/
theorem get_flip {k : Nat} {b : List Nat} {i x : Nat} (hk : k ≠ 0) (hb : b.length ≤ 65536) (hi : i < 5) (hx : x ≠ (enc k b).getD (b.length + 4 + i) 0) : get ((enc k b).set (b.length + 4 + i) x) = (0, [], 0, 6) := by
  have hl := enc_len k b
  have hlen : ((enc k b).set (b.length + 4 + i) x).length = b.length + 9 := by rw [List.length_set, hl]
  have ht : (enc k b).set (b.length + 4 + i) x = k :: b.length / 65536 :: b.length / 256 % 256 :: b.length % 256 :: (b ++ (tail k b).set i x) := by
    have h := enc_cons k b []
    rw [List.append_nil, List.append_nil] at h
    rw [h]
    rw [show b.length + 4 + i = (b.length + i) + 1 + 1 + 1 + 1 by omega]
    simp only [List.set_cons_succ]
    congr 4
    rw [List.set_append_right _ _ (by omega)]
    congr 2
    omega
  have e1 : blen ((enc k b).set (b.length + 4 + i) x) = b.length := by rw [ht, blen_cons, len_three hb]
  have e2 : body ((enc k b).set (b.length + 4 + i) x) = b := by rw [ht, body_cons, len_three hb, List.take_left]
  have e0 : ((enc k b).set (b.length + 4 + i) x).getD 0 0 = k := by rw [ht]; rfl
  have hne : ((enc k b).set (b.length + 4 + i) x).take (b.length + 9) ≠ enc k b := by
    intro he
    rw [List.take_of_length_le (by omega)] at he
    have hlt : b.length + 4 + i < (enc k b).length := by omega
    have := congrArg (fun l => l.getD (b.length + 4 + i) 0) he
    simp [List.getD, hlt] at this
    apply hx
    simp [List.getD, hlt, this]
  unfold get
  rw [if_neg (by omega), e0, if_neg hk, e1, if_neg (by omega), if_neg (by omega), e2, if_neg hne]

end Go.Proofs.YtpdkfafnffihjaaDoor.Fr
