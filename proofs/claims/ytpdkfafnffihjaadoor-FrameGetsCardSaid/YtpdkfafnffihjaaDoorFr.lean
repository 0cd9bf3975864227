/-
  Frames, plainly: the bytes of one; what any bytes begin with. No program is named here.
-/
import Derived.Test.YtpdkfafnffihjaaDoorCrc
namespace Go.Proofs.YtpdkfafnffihjaaDoor.Fr

/-- A frame's head: its kind, and how long its body is. -/
def head (k n : Nat) : List Nat := [k, n / 65536, n / 256 % 256, n % 256]

/-- A sum, the highest byte first. -/
def be4 (s : Nat) : List Nat := [s / 16777216, s / 65536 % 256, s / 256 % 256, s % 256]

/-- What the sum is of. -/
def hb (k : Nat) (b : List Nat) : List Nat := head k b.length ++ b

def sum (k : Nat) (b : List Nat) : Nat := Crc.more 0 (hb k b)

/-- What stands behind the body. -/
def tail (k : Nat) (b : List Nat) : List Nat := be4 (sum k b) ++ [10]

/-- A frame's bytes. -/
def enc (k : Nat) (b : List Nat) : List Nat := hb k b ++ tail k b

theorem hb_len (k : Nat) (b : List Nat) : (hb k b).length = b.length + 4 := by simp [hb, head]
theorem tail_len (k : Nat) (b : List Nat) : (tail k b).length = 5 := by simp [tail, be4]
theorem enc_len (k : Nat) (b : List Nat) : (enc k b).length = b.length + 9 := by rw [enc, List.length_append, hb_len, tail_len]

theorem head_byte {k n : Nat} (hk : k < 256) (hn : n ≤ 65536) : ∀ x ∈ head k n, x < 256 := by
  intro x hx
  simp [head] at hx
  omega

theorem be4_byte {s : Nat} (hs : s < 4294967296) : ∀ x ∈ be4 s, x < 256 := by
  intro x hx
  simp [be4] at hx
  omega

theorem hb_byte {k : Nat} {b : List Nat} (hk : k < 256) (hn : b.length ≤ 65536) (hb' : ∀ x ∈ b, x < 256) : ∀ x ∈ hb k b, x < 256 := by
  intro x hx
  rcases List.mem_append.1 hx with h | h
  · exact head_byte hk hn x h
  · exact hb' x h

theorem sum_lt {k : Nat} {b : List Nat} (hk : k < 256) (hn : b.length ≤ 65536) (hb' : ∀ x ∈ b, x < 256) : sum k b < 4294967296 :=
  Crc.more_lt (by decide) (hb_byte hk hn hb')

theorem enc_byte {k : Nat} {b : List Nat} (hk : k < 256) (hn : b.length ≤ 65536) (hb' : ∀ x ∈ b, x < 256) : ∀ x ∈ enc k b, x < 256 := by
  intro x hx
  rcases List.mem_append.1 hx with h | h
  · exact hb_byte hk hn hb' x h
  · rcases List.mem_append.1 h with h | h
    · exact be4_byte (sum_lt hk hn hb') x h
    · simp at h; omega

/-- Put: the bytes, and the error. -/
def put (k : Int) (b : List Nat) : List Nat × Int :=
  if k < 1 ∨ 255 < k then ([], 2) else if 65536 < b.length then ([], 5) else (enc k.toNat b, 0)

/-- How long the body is that a head tells. -/
def blen (l : List Nat) : Nat := 65536 * l.getD 1 0 + 256 * l.getD 2 0 + l.getD 3 0

/-- The body that stands there. -/
def body (l : List Nat) : List Nat := (l.drop 4).take (blen l)

/-- Get: the kind, the body, how many bytes, and the error. -/
def get (l : List Nat) : Nat × List Nat × Nat × Int :=
  if l.length < 4 then (0, [], 0, 4) else if l.getD 0 0 = 0 then (0, [], 0, 2) else if 65536 < blen l then (0, [], 0, 5) else
  if l.length < blen l + 9 then (0, [], 0, 4) else if l.take (blen l + 9) = enc (l.getD 0 0) (body l) then (l.getD 0 0, body l, blen l + 9, 0) else (0, [], 0, 6)

/-- Scan, with so much room: the frames, and how many bytes. -/
def scanN : Nat → List Nat → List (Nat × List Nat) × Nat
  | 0, _ => ([], 0)
  | f + 1, l => if (get l).2.2.2 = 0 then (((get l).1, (get l).2.1) :: (scanN f (l.drop (get l).2.2.1)).1, (get l).2.2.1 + (scanN f (l.drop (get l).2.2.1)).2) else ([], 0)

def scan (l : List Nat) : List (Nat × List Nat) × Nat := scanN l.length l

theorem body_len {l : List Nat} (h : blen l + 9 ≤ l.length) : (body l).length = blen l := by
  unfold body
  rw [List.length_take, List.length_drop]
  omega

theorem get_ok {l : List Nat} (h : (get l).2.2.2 = 0) : 4 ≤ l.length ∧ l.getD 0 0 ≠ 0 ∧ blen l ≤ 65536 ∧ blen l + 9 ≤ l.length ∧ l.take (blen l + 9) = enc (l.getD 0 0) (body l) ∧ get l = (l.getD 0 0, body l, blen l + 9, 0) := by
  unfold get at h ⊢
  by_cases h1 : l.length < 4
  · rw [if_pos h1] at h; cases h
  rw [if_neg h1] at h ⊢
  by_cases h2 : l.getD 0 0 = 0
  · rw [if_pos h2] at h; cases h
  rw [if_neg h2] at h ⊢
  by_cases h3 : 65536 < blen l
  · rw [if_pos h3] at h; cases h
  rw [if_neg h3] at h ⊢
  by_cases h4 : l.length < blen l + 9
  · rw [if_pos h4] at h; cases h
  rw [if_neg h4] at h ⊢
  by_cases h5 : l.take (blen l + 9) = enc (l.getD 0 0) (body l)
  · rw [if_pos h5]
    exact ⟨by omega, h2, by omega, by omega, h5, rfl⟩
  · rw [if_neg h5] at h; cases h

/-- What get tells where it fails: nothing. -/
theorem get_bad {l : List Nat} (h : (get l).2.2.2 ≠ 0) : (get l).1 = 0 ∧ (get l).2.1 = [] ∧ (get l).2.2.1 = 0 := by
  unfold get at h ⊢
  split
  · exact ⟨rfl, rfl, rfl⟩
  split
  · exact ⟨rfl, rfl, rfl⟩
  split
  · exact ⟨rfl, rfl, rfl⟩
  split
  · exact ⟨rfl, rfl, rfl⟩
  split
  · rename_i h1 h2 h3 h4 h5
    rw [if_neg h1, if_neg h2, if_neg h3, if_neg h4, if_pos h5] at h
    exact absurd rfl h
  · exact ⟨rfl, rfl, rfl⟩

theorem scanN_room : ∀ (f : Nat) (l : List Nat), l.length ≤ f → scanN f l = scanN l.length l
  | 0, l, h => by
    have : l.length = 0 := by omega
    rw [this]
  | f + 1, l, h => by
    by_cases e : (get l).2.2.2 = 0
    · obtain ⟨_, _, _, h4, _, hg⟩ := get_ok e
      have hn : (get l).2.2.1 = blen l + 9 := by rw [hg]
      have hd : (l.drop (get l).2.2.1).length = l.length - (blen l + 9) := by rw [List.length_drop, hn]
      obtain ⟨m, hm⟩ : ∃ m, l.length = m + 1 := ⟨l.length - 1, by omega⟩
      have h1 := scanN_room f (l.drop (get l).2.2.1) (by rw [hd]; omega)
      have h2 := scanN_room m (l.drop (get l).2.2.1) (by rw [hd]; omega)
      rw [hm]
      show (if (get l).2.2.2 = 0 then _ else _) = (if (get l).2.2.2 = 0 then _ else _)
      rw [if_pos e, if_pos e, h1, h2]
    · have hz : ∀ g, scanN g l = ([], 0) := fun g => by
        cases g with
        | zero => rfl
        | succ g =>
          show (if (get l).2.2.2 = 0 then _ else _) = _
          rw [if_neg e]
      rw [hz, hz]

theorem scan_stop {l : List Nat} (e : (get l).2.2.2 ≠ 0) : scan l = ([], 0) := by
  unfold scan
  cases l.length with
  | zero => rfl
  | succ g =>
    show (if (get l).2.2.2 = 0 then _ else _) = _
    rw [if_neg e]

theorem scan_more {l : List Nat} (e : (get l).2.2.2 = 0) : scan l = (((get l).1, (get l).2.1) :: (scan (l.drop (get l).2.2.1)).1, (get l).2.2.1 + (scan (l.drop (get l).2.2.1)).2) := by
  obtain ⟨_, _, _, h4, _, hg⟩ := get_ok e
  have hn : (get l).2.2.1 = blen l + 9 := by rw [hg]
  obtain ⟨m, hm⟩ : ∃ m, l.length = m + 1 := ⟨l.length - 1, by omega⟩
  have h2 := scanN_room m (l.drop (get l).2.2.1) (by rw [List.length_drop, hn]; omega)
  unfold scan
  rw [hm]
  show (if (get l).2.2.2 = 0 then _ else _) = _
  rw [if_pos e, h2]

end Go.Proofs.YtpdkfafnffihjaaDoor.Fr
