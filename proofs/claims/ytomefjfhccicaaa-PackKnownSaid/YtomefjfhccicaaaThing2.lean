/-
  is: the next thing that is read is the one that was laid.
-/
import Derived.Test.YtomefjfhccicaaaThing
namespace Go.Proofs.Ytomefjfhccicaaa
open Go.RowKit

theorem rdInt_enc {n : Int} (h1 : -9223372036854775808 ≤ n) (h2 : n ≤ 9223372036854775807) (r : List Int) : Pk.rdInt (Pk.enc n ++ r) 0 = (n, r, 0) := by
  have h := Pk.num_enc h1 h2 r
  unfold Pk.rdInt Pk.nxt
  rw [if_pos rfl, h]
  simp only [if_true]
  rw [List.drop_left' rfl]

theorem rdBlb_enc {x : List Int} (hx : x.length ≤ 2147483647) (r : List Int) : Pk.rdBlb (Pk.encB x ++ r) 0 = (x, r, 0) := by
  have h := Pk.blb_enc hx r
  unfold Pk.rdBlb Pk.nxt
  rw [if_pos rfl, h]
  simp only [if_true]
  rw [List.drop_left' rfl]

set_option maxRecDepth 100000 in
set_option maxHeartbeats 1000000 in
theorem is_row {p lo h1 : Nat} (n : Int) (vx : Value) (x rest : List Int) (w : World) (hv : RdI .u8 0 h1 w vx x) (hh : h1 ≤ p) (hx : x.length ≤ 2147483647) (hr : Rdr p lo w (Pk.encB x ++ rest) 0) (hb : ∀ y ∈ Pk.encB x ++ rest, 0 ≤ y ∧ y < 256) :
    Calls Try.prog 31 #[.pointer (some ⟨p, 0, none⟩), .agg #[.bool true, .int .i64 n, vx]] w fun e w' => e = .returned (.bool true) ∧ Rdr p lo w' rest 0 ∧ Kp p (p + 1) w w' := by
  have hq : ∀ W, Rdr p lo W (Pk.encB x ++ rest) 0 → Calls Try.prog 25 #[.pointer (some ⟨p, 0, none⟩)] W fun e w' => (∃ v, e = .returned v ∧ OwnI .u8 5 W.heap.size w'.heap.size w' v x) ∧ Rdr p lo w' rest 0 ∧ Kp p (p + 1) W w' := fun W h => by
    have := rBlob_any _ 0 W h hb
    rwa [rdBlb_enc hx] at this
  have HQ := Lib.hid hq
  obtain ⟨aox, cx, rfl, _, _, _⟩ := hv.open
  have HV := Lib.hid hv
  have HR := Lib.hid hr
  have hpl := hr.lt
  clear hv hq hr hb
  go_enter Try.func31, Try.ntmps31
  go_wp2_with fail
  have hs : (w.alloc (.cells #[.bool true, .int .i64 n, .slice aox x.length cx] 51)).cell? ⟨w.heap.size, 2, none⟩ = some (.slice aox x.length cx) := by simp [go_sem]
  have HW : Hid (Kp p (p + 1) w (w.alloc (.cells #[.bool true, .int .i64 n, .slice aox x.length cx] 51))) := (Kp.refl _ _ _).alloc _
  have HRW : Hid (Rdr p lo (w.alloc (.cells #[.bool true, .int .i64 n, .slice aox x.length cx] 51)) (Pk.encB x ++ rest) 0) := HR.out.keep0 ((Kp.refl 0 0 w).alloc _)
  have HS := Lib.hid hs
  have hsb : w.heap.size < (w.alloc (.cells #[.bool true, .int .i64 n, .slice aox x.length cx] 51)).heap.size := by simp
  generalize (w.alloc (.cells #[.bool true, .int .i64 n, .slice aox x.length cx] 51)) = w1 at HW HRW HS hs hsb ⊢
  go_region_held3 (fun w' => w'.cell? ⟨w.heap.size, 2, none⟩ = some (.slice aox x.length cx))
    (first | go_keep | exact hk7.cell hs (.inr (by omega)) | exact hk8.cell (hk7.cell hs (.inr (by omega))) (.inr (Nat.zero_le _)))
    ((first
      | (go_at_call 25
         refine (HQ.out _ (HRW.out.keep0 (Kp.refl 0 0 w1).drew)).mono ?_
         rintro e w7 ⟨⟨v7, rfl, ho7⟩, hr7, hk7⟩)
      | (go_at_call 14
         refine (same_yes _ _ _ x ho7.rd (HV.out.keep (HW.out.trans ((Kp.refl p (p + 1) w1).drew.trans hk7)) fun b _ hb => .inl (by omega))).mono ?_
         rintro e w8 ⟨rfl, hk8⟩)))
  have HRE := Lib.hid (hr7.keep0 hk8)
  have HKE := Lib.hid ((HW.out.trans ((Kp.refl p (p + 1) w1).drew.trans hk7)).pure hk8)
  clear hr7 hk7 hk8
  go_wp2_with fail
  go_ret
  exact ⟨rfl, HRE.out, HKE.out⟩

set_option maxRecDepth 100000 in
set_option maxHeartbeats 1000000 in
theorem is_num {p lo h1 : Nat} (n : Int) (vx : Value) (x rest : List Int) (w : World) (hv : RdI .u8 0 h1 w vx x) (n1 : -9223372036854775808 ≤ n) (n2 : n ≤ 9223372036854775807) (hr : Rdr p lo w (Pk.enc n ++ rest) 0) (hb : ∀ y ∈ Pk.enc n ++ rest, 0 ≤ y ∧ y < 256) :
    Calls Try.prog 31 #[.pointer (some ⟨p, 0, none⟩), .agg #[.bool false, .int .i64 n, vx]] w fun e w' => e = .returned (.bool true) ∧ Rdr p lo w' rest 0 ∧ Kp p (p + 1) w w' := by
  have hq : ∀ W, Rdr p lo W (Pk.enc n ++ rest) 0 → Calls Try.prog 21 #[.pointer (some ⟨p, 0, none⟩)] W fun e w' => e = .returned (.int .i64 n) ∧ Rdr p lo w' rest 0 ∧ Kp p (p + 1) W w' := fun W h => by
    have := rint_any _ 0 W h hb
    rwa [rdInt_enc n1 n2] at this
  have HQ := Lib.hid hq
  obtain ⟨aox, cx, rfl, _, _, _⟩ := hv.open
  have HR := Lib.hid hr
  have hpl := hr.lt
  have hnn : (n == n) = true := by simp
  clear hv hq hr hb
  go_enter Try.func31, Try.ntmps31
  go_wp2_with fail
  have hs : (w.alloc (.cells #[.bool false, .int .i64 n, .slice aox x.length cx] 51)).cell? ⟨w.heap.size, 1, none⟩ = some (.int .i64 n) := by simp [go_sem]
  have HW : Hid (Kp p (p + 1) w (w.alloc (.cells #[.bool false, .int .i64 n, .slice aox x.length cx] 51))) := (Kp.refl _ _ _).alloc _
  have HRW : Hid (Rdr p lo (w.alloc (.cells #[.bool false, .int .i64 n, .slice aox x.length cx] 51)) (Pk.enc n ++ rest) 0) := HR.out.keep0 ((Kp.refl 0 0 w).alloc _)
  have hsb : w.heap.size < (w.alloc (.cells #[.bool false, .int .i64 n, .slice aox x.length cx] 51)).heap.size := by simp
  generalize (w.alloc (.cells #[.bool false, .int .i64 n, .slice aox x.length cx] 51)) = w1 at HW HRW hs hsb ⊢
  go_region_held3 (fun w' => w'.cell? ⟨w.heap.size, 1, none⟩ = some (.int .i64 n))
    (first | go_keep | exact hk7.cell hs (.inr (by omega)))
    ((first
      | (go_at_call 21
         refine (HQ.out _ (HRW.out.keep0 (Kp.refl 0 0 w1).drew)).mono ?_
         rintro e w7 ⟨rfl, hr7, hk7⟩)))
  have HRE := Lib.hid hr7
  have HKE := Lib.hid (HW.out.trans ((Kp.refl p (p + 1) w1).drew.trans hk7))
  clear hr7 hk7
  go_wp2_with fail
  go_ret
  exact ⟨rfl, HRE.out, HKE.out⟩

end Go.Proofs.Ytomefjfhccicaaa
