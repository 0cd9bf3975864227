/-
  Frames, plainly: the bodies' lengths.
-/
import Derived.Test.YtpdkfafnffihjaaDoorFr3
namespace Go.Proofs.YtpdkfafnffihjaaDoor.Fr

theorem get_body_le (l : List Nat) : (get l).2.1.length ≤ l.length := by
  by_cases h : (get l).2.2.2 = 0
  · obtain ⟨_, _, _, h4, _, hg⟩ := get_ok h
    rw [hg]
    show (body l).length ≤ _
    rw [body_len h4]
    omega
  · rw [(get_bad h).2.1]
    exact Nat.zero_le _

theorem scanN_body_le : ∀ (n : Nat) (l : List Nat), ∀ f ∈ (scanN n l).1, f.2.length ≤ l.length
  | 0, l, f, hf => by simp [scanN] at hf
  | n + 1, l, f, hf => by
    unfold scanN at hf
    by_cases h : (get l).2.2.2 = 0
    · rw [if_pos h] at hf
      rcases List.mem_cons.1 hf with rfl | hf
      · exact get_body_le l
      · have := scanN_body_le n _ f hf
        rw [List.length_drop] at this
        omega
    · rw [if_neg h] at hf
      simp at hf

theorem scan_body_le (l : List Nat) : ∀ f ∈ (scan l).1, f.2.length ≤ l.length := scanN_body_le _ l

end Go.Proofs.YtpdkfafnffihjaaDoor.Fr
