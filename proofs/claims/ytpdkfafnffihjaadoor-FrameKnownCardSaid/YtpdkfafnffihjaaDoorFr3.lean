/-
  Frames, plainly: a row of frames, cut off anywhere.
-/
import Derived.Test.YtpdkfafnffihjaaDoorFr2
namespace Go.Proofs.YtpdkfafnffihjaaDoor.Fr

/-- The bytes of frames, one behind the other. -/
def rows : List (Nat × List Nat) → List Nat
  | [] => []
  | f :: fs => enc f.1 f.2 ++ rows fs

theorem rows_app : ∀ (a b : List (Nat × List Nat)), rows (a ++ b) = rows a ++ rows b
  | [], _ => rfl
  | f :: a, b => by rw [List.cons_append, rows, rows, rows_app a b, List.append_assoc]

theorem rows_one (f : Nat × List Nat) : rows [f] = enc f.1 f.2 := by rw [rows, rows, List.append_nil]

theorem rows_byte : ∀ (fs : List (Nat × List Nat)), (∀ f ∈ fs, f.1 < 256 ∧ f.2.length ≤ 65536 ∧ ∀ x ∈ f.2, x < 256) → ∀ x ∈ rows fs, x < 256
  | [], _, x, hx => by simp [rows] at hx
  | f :: fs, h, x, hx => by
    rcases List.mem_append.1 hx with hx | hx
    · obtain ⟨h1, h2, h3⟩ := h f (List.mem_cons_self ..)
      exact enc_byte h1 h2 h3 x hx
    · exact rows_byte fs (fun g hg => h g (List.mem_cons_of_mem _ hg)) x hx

theorem rows_len : ∀ (fs : List (Nat × List Nat)) (m : Nat), (∀ f ∈ fs, f.2.length ≤ m) → (rows fs).length ≤ fs.length * (m + 9)
  | [], _, _ => by simp [rows]
  | f :: fs, m, h => by
    have h1 := h f (List.mem_cons_self ..)
    have h2 := rows_len fs m fun g hg => h g (List.mem_cons_of_mem _ hg)
    rw [rows, List.length_append, enc_len, List.length_cons, Nat.add_mul]
    omega

/-- A row of frames that is cut off: what is whole is told, and what is next is too short. -/
theorem scan_cut : ∀ (fs : List (Nat × List Nat)) (n m : Nat), (∀ f ∈ fs, f.1 ≠ 0 ∧ f.2.length ≤ 65536) → n ≤ fs.length → m ≤ (rows fs).length → (rows (fs.take n)).length ≤ m → (n < fs.length → m < (rows (fs.take (n + 1))).length) →
    scan ((rows fs).take m) = (fs.take n, (rows (fs.take n)).length) ∧ get (((rows fs).take m).drop (rows (fs.take n)).length) = (0, [], 0, 4)
  | [], n, m, _, hn, hm, _, _ => by
    have : m = 0 := by simpa [rows] using hm
    subst this
    have : n = 0 := by simpa using hn
    subst this
    exact ⟨by decide +kernel, by decide +kernel⟩
  | f :: fs, 0, m, hg, hn, hm, _, hlt => by
    obtain ⟨h1, h2⟩ := hg f (List.mem_cons_self ..)
    have hlt := hlt (by simp)
    have e1 : rows (List.take (0 + 1) (f :: fs)) = enc f.1 f.2 := by rw [show List.take (0 + 1) (f :: fs) = [f] by simp, rows_one]
    rw [e1, enc_len] at hlt
    have e2 : (rows (f :: fs)).take m = (enc f.1 f.2).take m := by rw [rows, List.take_append_of_le_length (by rw [enc_len]; omega)]
    have e3 : get ((enc f.1 f.2).take m) = (0, [], 0, 4) := get_cut h1 h2 hlt
    rw [e2, List.take_zero]
    refine ⟨scan_stop (by rw [e3]; decide), ?_⟩
    simpa [rows] using e3
  | f :: fs, n + 1, m, hg, hn, hm, hle, hlt => by
    obtain ⟨h1, h2⟩ := hg f (List.mem_cons_self ..)
    have e1 : ∀ j, (rows (List.take (j + 1) (f :: fs))).length = f.2.length + 9 + (rows (fs.take j)).length := fun j => by
      rw [List.take_succ_cons, rows, List.length_append, enc_len]
    rw [e1] at hle
    have hm2 : m ≤ f.2.length + 9 + (rows fs).length := by rw [rows, List.length_append, enc_len] at hm; exact hm
    obtain ⟨q, rfl⟩ : ∃ q, m = f.2.length + 9 + q := ⟨m - (f.2.length + 9), by omega⟩
    have hi := scan_cut fs n q (fun g h => hg g (List.mem_cons_of_mem _ h)) (by simpa using hn) (by omega) (by omega) (fun h => by
      have := hlt (by simpa using h)
      rw [e1] at this
      omega)
    have e2 : (rows (f :: fs)).take (f.2.length + 9 + q) = enc f.1 f.2 ++ (rows fs).take q := by
      rw [rows, List.take_append, List.take_of_length_le (by rw [enc_len]; omega), enc_len]
      congr 2
      omega
    have e3 := get_enc (k := f.1) (b := f.2) ((rows fs).take q) h1 h2
    have e4 : (enc f.1 f.2 ++ (rows fs).take q).drop (f.2.length + 9) = (rows fs).take q := by rw [← enc_len f.1 f.2, List.drop_left]
    rw [e2, e1]
    constructor
    · rw [scan_more (by rw [e3]), e3]
      simp only [e4, hi.1, List.take_succ_cons]
    · rw [← List.drop_drop, e4]
      exact hi.2

end Go.Proofs.YtpdkfafnffihjaaDoor.Fr
