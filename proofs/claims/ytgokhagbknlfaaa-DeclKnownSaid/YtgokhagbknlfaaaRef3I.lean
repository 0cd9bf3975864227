/-
  The contracts of package quaysideref01's Reader.
-/
import Derived.Test.YtgokhagbknlfaaaRef2I
namespace Go.Proofs.Ytgokhagbknlfaaa
open Go.RowKit
set_option maxRecDepth 100000

/-- What number tells of the bytes that stand at a place. -/
def Tells3 (w : World) (r : Int × Nat × Int) (e : Ending) (w' : World) : Prop :=
  e = .returned (.tuple #[.int .i64 r.1, .int .i64 (r.2.1 : Int), .int .i64 r.2.2]) ∧ Kp 0 0 w w'

set_option maxHeartbeats 1000000 in
theorem refNum_in {p lo : Nat} (L t : List Int) (a n : Nat) (er x : Int) (w : World) (h : RefR p lo w L a er) (hL : L.length ≤ 140737488351232) (ha : a < L.length) (hx : 0 ≤ x ∧ x < 256) (hxa : L.getD a 0 = x) (ht : L.drop (a + 1) = t) (hb : ∀ y ∈ t, 0 ≤ y ∧ y < 256)
    (hxn : (16 < x ∧ x = (n : Int) + 16) ∨ (x ≤ 16 ∧ x = (n : Int))) :
    Calls Try.prog 51 #[.pointer (some ⟨p, 0, none⟩), .int .i64 (a : Int)] w (Tells3 w (Pk.numC (decide (16 < x)) (n : Int) t)) := by
  have hlen : t.length = L.length - (a + 1) := by rw [← ht, List.length_drop]
  have HG : Hid (∀ j, t.getD j 0 = L.getD (a + 1 + j) 0) := fun j => by rw [← ht]; simp [List.getD, List.getElem?_drop]
  have HT : Hid (t.head? = some 0 ↔ 0 < t.length ∧ t.getD 0 0 = 0) := by
    show _ ↔ _
    cases t with
    | nil => simp
    | cons y t => simp
  have HTK : Hid (∀ m, 0 < m → (t.take m).head? = t.head?) := fun m hm => by
    cases t with
    | nil => simp
    | cons y t => cases m with
      | zero => omega
      | succ m => simp
  have HV : Hid (∀ k, k < t.length → Pk.val (t.take (k + 1)) = Pk.val (t.take k) * 256 + (t.getD k 0).toNat) := fun k hk => by rw [take_snoc_getD hk, Pk.val_snoc]
  have HB : Hid (∀ k, k < t.length → 0 ≤ t.getD k 0 ∧ t.getD k 0 < 256) := fun k hk => by
    have := hb t[k] (List.getElem_mem hk)
    simpa [List.getD, hk] using this
  have HVL : Hid (∀ k, k < 8 → Pk.val (t.take k) < 256 ^ 7) := fun k hk => by
    have h1 := Pk.val_lt (l := t.take k) fun x hx => hb x (List.mem_of_mem_take hx)
    have h2 : (t.take k).length ≤ k := by rw [List.length_take]; omega
    exact Nat.lt_of_lt_of_le h1 (Nat.pow_le_pow_right (by omega) (by omega))
  have HV8 : Hid (∀ k, k ≤ 8 → Pk.val (t.take k) < 18446744073709551616) := fun k hk => Pk.val_small (fun x hx => hb x (List.mem_of_mem_take hx)) (by rw [List.length_take]; omega)
  have HN : Hid (Pk.numC (decide (16 < x)) (n : Int) t = if 8 < (n : Int) then (0, 0, 5)
      else if (t.length : Int) < (n : Int) then (0, 0, 4)
      else if (t.take n).head? = some 0 ∨ Pk.lim (decide (16 < x)) < Pk.val (t.take n) then (0, 0, 5)
      else ((if decide (16 < x) = true then -(Pk.val (t.take n) : Int) else (Pk.val (t.take n) : Int)), n + 1, 0)) := rfl
  generalize hr : Pk.numC (decide (16 < x)) (n : Int) t = r at HN ⊢
  clear hr ht hb
  obtain ⟨v, hh, hr, hal⟩ := h
  obtain ⟨ao, c, rfl, hlc, hc63, hcl⟩ := hr.open
  obtain ⟨b1, o1, rfl, _, _, hc1⟩ := hcl (by omega)
  obtain ⟨c0, c1, c2, f0, f1, f2⟩ := cell_three hh
  have cx := hc1 a ha
  rw [hxa] at cx
  have HC : Hid (∀ k, k < t.length → w.cell? ⟨b1, o1 + (a + 1 + k), none⟩ = some (.int .u8 (t.getD k 0))) := fun k hk => by rw [HG.out]; exact hc1 _ (by omega)
  clear hr hh hcl hc1 hxa HG hlc
  have HLEN := Lib.hid hlen
  have hLL : L.length = a + 1 + t.length := by omega
  rw [hLL] at c0 hL
  clear hlen ha hal hLL
  generalize t.length = m at *
  rcases hxn with ⟨h16, rfl⟩ | ⟨h16, rfl⟩
  · rw [decide_eq_true h16] at HN
    have hn0 : ((n : Int) == 0) = false := beq_eq_false_iff_ne.2 (by omega)
    by_cases h8 : 8 < n
    · obtain rfl : r = (0, 0, 5) := by rw [HN.out, if_pos (by omega)]
      go_enter Try.func51, Try.ntmps51
      go_wp2_with fail
      go_ret3
      exact ⟨rfl, Kp.refl _ _ _⟩
    · by_cases hs : m < n
      · obtain rfl : r = (0, 0, 4) := by rw [HN.out, if_neg (by omega), if_pos (by omega)]
        go_enter Try.func51, Try.ntmps51
        go_wp2_with fail
        go_ret3
        exact ⟨rfl, Kp.refl _ _ _⟩
      · have HV9 := HV8.out n (by omega)
        have HZ : Hid ((0 < n ∧ t.getD 0 0 = 0) ↔ (t.take n).head? = some 0) := by
          show _ ↔ _
          constructor
          · rintro ⟨a1, a2⟩
            rw [HTK.out n a1]
            exact HT.out.2 ⟨by omega, a2⟩
          · intro a1
            by_cases hn : 0 < n
            · rw [HTK.out n hn] at a1
              exact ⟨hn, (HT.out.1 a1).2⟩
            · obtain rfl : n = 0 := by omega
              simp at a1
        have HR : Hid (r = if (t.take n).head? = some 0 ∨ 9223372036854775808 < Pk.val (t.take n) then (0, 0, 5) else (-(Pk.val (t.take n) : Int), n + 1, 0)) := by
          show _ = _
          rw [HN.out, if_neg (by omega), if_neg (by omega)]
          rfl
        go_enter Try.func51, Try.ntmps51
        go_wp2_with fail
        go_loop [9, 10] (fun u i => ∃ k : Nat, k ≤ n ∧ i = .int .i64 k ∧ u = .int .u64 (Pk.val (t.take k) : Nat)) (fun _ i => n - (intOf i).toNat)
        case atStart => exact ⟨0, Nat.zero_le _, rfl, rfl⟩
        case round =>
          obtain ⟨k, hk, rfl, rfl⟩ := hrel
          by_cases hlt : k < n
          · have cy := HC.out k (by omega)
            have HS := Lib.hid (HV.out k (by omega))
            have hy := HB.out k (by omega)
            have hv := HVL.out k (by omega)
            generalize t.getD k 0 = y at cy HS hy
            generalize Pk.val (t.take k) = u at HS hv
            have hv' : u < 72057594037927936 := hv
            go_wp2_with fail
            go_round
            case rel => exact ⟨k + 1, by omega, by go_num, by rw [HS.out]; go_num⟩
            case measure => simp [intOf]; omega
          · obtain rfl : k = n := by omega
            generalize Pk.val (t.take k) = u at HV9 HR
            by_cases hz : 0 < k ∧ t.getD 0 0 = 0
            · obtain rfl : r = (0, 0, 5) := by rw [HR.out, if_pos (.inl (HZ.out.1 hz))]
              have cy : w.cell? ⟨b1, o1 + (a + 1), none⟩ = some (.int .u8 (t.getD 0 0)) := HC.out 0 (by omega)
              obtain ⟨hz1, hz2⟩ := hz
              rw [hz2] at cy
              go_wp2_with fail
              go_ret3
              exact ⟨rfl, Kp.refl _ _ _⟩
            · by_cases ho : 9223372036854775808 < u
              · obtain rfl : r = (0, 0, 5) := by rw [HR.out, if_pos (.inr ho)]
                by_cases h0 : 0 < k
                · have cy : w.cell? ⟨b1, o1 + (a + 1), none⟩ = some (.int .u8 (t.getD 0 0)) := HC.out 0 (by omega)
                  have hny : (t.getD 0 0 == 0) = false := by
                    rw [beq_eq_false_iff_ne]
                    exact fun e => hz ⟨h0, e⟩
                  generalize t.getD 0 0 = y at cy hny hz
                  clear hz
                  go_wp2_with fail
                  go_ret3
                  exact ⟨rfl, Kp.refl _ _ _⟩
                · omega
              · obtain rfl : r = (-(u : Int), k + 1, 0) := by rw [HR.out, if_neg (fun hc => hc.elim (fun h => hz (HZ.out.2 h)) ho)]
                by_cases h0 : 0 < k
                · have cy : w.cell? ⟨b1, o1 + (a + 1), none⟩ = some (.int .u8 (t.getD 0 0)) := HC.out 0 (by omega)
                  have hny : (t.getD 0 0 == 0) = false := by
                    rw [beq_eq_false_iff_ne]
                    exact fun e => hz ⟨h0, e⟩
                  generalize t.getD 0 0 = y at cy hny hz
                  clear hz
                  go_wp2_with fail
                  rw [neg_val u (by omega)]
                  go_ret3
                  exact ⟨rfl, Kp.refl _ _ _⟩
                · omega
  · rw [decide_eq_false (show ¬ (16 < (n : Int)) by omega)] at HN
    by_cases h8 : 8 < n
    · obtain rfl : r = (0, 0, 5) := by rw [HN.out, if_pos (by omega)]
      go_enter Try.func51, Try.ntmps51
      go_wp2_with fail
      go_ret3
      exact ⟨rfl, Kp.refl _ _ _⟩
    · by_cases hs : m < n
      · obtain rfl : r = (0, 0, 4) := by rw [HN.out, if_neg (by omega), if_pos (by omega)]
        go_enter Try.func51, Try.ntmps51
        go_wp2_with fail
        go_ret3
        exact ⟨rfl, Kp.refl _ _ _⟩
      · have HV9 := HV8.out n (by omega)
        have HZ : Hid ((0 < n ∧ t.getD 0 0 = 0) ↔ (t.take n).head? = some 0) := by
          show _ ↔ _
          constructor
          · rintro ⟨a1, a2⟩
            rw [HTK.out n a1]
            exact HT.out.2 ⟨by omega, a2⟩
          · intro a1
            by_cases hn : 0 < n
            · rw [HTK.out n hn] at a1
              exact ⟨hn, (HT.out.1 a1).2⟩
            · obtain rfl : n = 0 := by omega
              simp at a1
        have HR : Hid (r = if (t.take n).head? = some 0 ∨ 9223372036854775807 < Pk.val (t.take n) then (0, 0, 5) else ((Pk.val (t.take n) : Int), n + 1, 0)) := by
          show _ = _
          rw [HN.out, if_neg (by omega), if_neg (by omega)]
          rfl
        go_enter Try.func51, Try.ntmps51
        go_wp2_with fail
        go_loop [9, 10] (fun u i => ∃ k : Nat, k ≤ n ∧ i = .int .i64 k ∧ u = .int .u64 (Pk.val (t.take k) : Nat)) (fun _ i => n - (intOf i).toNat)
        case atStart => exact ⟨0, Nat.zero_le _, rfl, rfl⟩
        case round =>
          obtain ⟨k, hk, rfl, rfl⟩ := hrel
          by_cases hlt : k < n
          · have cy := HC.out k (by omega)
            have HS := Lib.hid (HV.out k (by omega))
            have hy := HB.out k (by omega)
            have hv := HVL.out k (by omega)
            generalize t.getD k 0 = y at cy HS hy
            generalize Pk.val (t.take k) = u at HS hv
            have hv' : u < 72057594037927936 := hv
            go_wp2_with fail
            go_round
            case rel => exact ⟨k + 1, by omega, by go_num, by rw [HS.out]; go_num⟩
            case measure => simp [intOf]; omega
          · obtain rfl : k = n := by omega
            generalize Pk.val (t.take k) = u at HV9 HR
            by_cases hz : 0 < k ∧ t.getD 0 0 = 0
            · obtain rfl : r = (0, 0, 5) := by rw [HR.out, if_pos (.inl (HZ.out.1 hz))]
              have cy : w.cell? ⟨b1, o1 + (a + 1), none⟩ = some (.int .u8 (t.getD 0 0)) := HC.out 0 (by omega)
              obtain ⟨hz1, hz2⟩ := hz
              rw [hz2] at cy
              go_wp2_with fail
              go_ret3
              exact ⟨rfl, Kp.refl _ _ _⟩
            · by_cases ho : 9223372036854775807 < u
              · obtain rfl : r = (0, 0, 5) := by rw [HR.out, if_pos (.inr ho)]
                by_cases h0 : 0 < k
                · have cy : w.cell? ⟨b1, o1 + (a + 1), none⟩ = some (.int .u8 (t.getD 0 0)) := HC.out 0 (by omega)
                  have hny : (t.getD 0 0 == 0) = false := by
                    rw [beq_eq_false_iff_ne]
                    exact fun e => hz ⟨h0, e⟩
                  generalize t.getD 0 0 = y at cy hny hz
                  clear hz
                  go_wp2_with fail
                  go_ret3
                  exact ⟨rfl, Kp.refl _ _ _⟩
                · clear hz
                  go_wp2_with fail
                  go_ret3
                  exact ⟨rfl, Kp.refl _ _ _⟩
              · obtain rfl : r = ((u : Int), k + 1, 0) := by rw [HR.out, if_neg (fun hc => hc.elim (fun h => hz (HZ.out.2 h)) ho)]
                by_cases h0 : 0 < k
                · have cy : w.cell? ⟨b1, o1 + (a + 1), none⟩ = some (.int .u8 (t.getD 0 0)) := HC.out 0 (by omega)
                  have hny : (t.getD 0 0 == 0) = false := by
                    rw [beq_eq_false_iff_ne]
                    exact fun e => hz ⟨h0, e⟩
                  generalize t.getD 0 0 = y at cy hny hz
                  clear hz
                  go_wp2_with fail
                  go_ret3
                  exact ⟨rfl, Kp.refl _ _ _⟩
                · clear hz
                  go_wp2_with fail
                  go_ret3
                  exact ⟨rfl, Kp.refl _ _ _⟩

end Go.Proofs.Ytgokhagbknlfaaa
