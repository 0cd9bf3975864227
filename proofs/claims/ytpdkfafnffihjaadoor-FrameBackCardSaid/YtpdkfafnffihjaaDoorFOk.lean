/-
  The landed Put, Get and Scan keep the document.
-/
import Derived.Test.YtpdkfafnffihjaaDoorNumber
import Derived.Test.YtpdkfafnffihjaaDoorMoreQ
import Derived.Test.YtpdkfafnffihjaaDoorFr2
import Derived.Deep.RegionHeld3
import Derived.PlainAid
namespace Go.Proofs.YtpdkfafnffihjaaDoor
open Go.RowKit

theorem five {y : List Nat} (h : y.length = 5) : ∃ a b c d e, y = [a, b, c, d, e] := by
  match y, h with
  | [a, b, c, d, e], _ => exact ⟨a, b, c, d, e, rfl⟩

theorem tail_iff {y : List Nat} {s : Nat} (hy : y.length = 5) (hb : ∀ x ∈ y, x < 256) (_hs : s < 4294967296) : y = Fr.be4 s ++ [10] ↔ beN (y.take 4) = s ∧ y.getD 4 0 = 10 := by
  obtain ⟨a, b, c, d, e, rfl⟩ := five hy
  have h1 := hb a (by simp)
  have h2 := hb b (by simp)
  have h3 := hb c (by simp)
  have h4 := hb d (by simp)
  simp [Fr.be4, beN]
  omega

/-- What the sum is of. -/
theorem hb_take {l : List Nat} (h4 : ¬ l.length < 4) (rb : ∀ x ∈ l, x < 256) (hN : ¬ 65536 < Fr.blen l) (h9 : ¬ l.length < Fr.blen l + 9) : Fr.hb (l.getD 0 0) (Fr.body l) = l.take (Fr.blen l + 4) := by
  match l, h4 with
  | k :: x1 :: x2 :: x3 :: r, _ =>
    have b1 := rb x1 (by simp)
    have b2 := rb x2 (by simp)
    have b3 := rb x3 (by simp)
    have hl := Fr.body_len (l := k :: x1 :: x2 :: x3 :: r) (by omega)
    have e : Fr.hb ((k :: x1 :: x2 :: x3 :: r).getD 0 0) (Fr.body (k :: x1 :: x2 :: x3 :: r)) = Fr.head k (Fr.body (k :: x1 :: x2 :: x3 :: r)).length ++ Fr.body (k :: x1 :: x2 :: x3 :: r) := rfl
    rw [e, hl]
    rw [Fr.blen_cons] at hN ⊢
    rw [Fr.body_cons]
    have e1 : (65536 * x1 + 256 * x2 + x3) / 65536 = x1 := by omega
    have e2 : (65536 * x1 + 256 * x2 + x3) / 256 % 256 = x2 := by omega
    have e3 : (65536 * x1 + 256 * x2 + x3) % 256 = x3 := by omega
    simp [Fr.head, e1, e2, e3]
  | [], h => simp at h
  | [_], h => simp at h
  | [_, _], h => simp at h
  | [_, _, _], h => simp at h

/-- Whether the bytes that stand there are the frame's. -/
theorem whole_iff {l : List Nat} (h4 : ¬ l.length < 4) (rb : ∀ x ∈ l, x < 256) (hN : ¬ 65536 < Fr.blen l) (h9 : ¬ l.length < Fr.blen l + 9) :
    l.take (Fr.blen l + 9) = Fr.enc (l.getD 0 0) (Fr.body l) ↔ beN ((l.drop (Fr.blen l + 4)).take 4) = Crc.more 0 (l.take (Fr.blen l + 4)) ∧ l.getD (Fr.blen l + 8) 0 = 10 := by
  have hh := hb_take h4 rb hN h9
  have hs : Crc.more 0 (l.take (Fr.blen l + 4)) < 4294967296 := Crc.more_lt (by decide) fun x hx => rb x (List.mem_of_mem_take hx)
  have e1 : Fr.enc (l.getD 0 0) (Fr.body l) = l.take (Fr.blen l + 4) ++ (Fr.be4 (Crc.more 0 (l.take (Fr.blen l + 4))) ++ [10]) := by
    unfold Fr.enc Fr.tail Fr.sum
    rw [hh]
  generalize Crc.more 0 (l.take (Fr.blen l + 4)) = s at *
  generalize Fr.blen l = N at *
  have e2 : l.take (N + 9) = l.take (N + 4) ++ (l.drop (N + 4)).take 5 := by
    rw [show N + 9 = (N + 4) + 5 by omega, List.take_add]
  have hy : ((l.drop (N + 4)).take 5).length = 5 := by rw [List.length_take, List.length_drop]; omega
  have hi := tail_iff (y := (l.drop (N + 4)).take 5) hy (fun x hx => rb x (List.mem_of_mem_drop (List.mem_of_mem_take hx))) hs
  have e3 : ((l.drop (N + 4)).take 5).take 4 = (l.drop (N + 4)).take 4 := by rw [List.take_take]; rfl
  have e4 : ((l.drop (N + 4)).take 5).getD 4 0 = l.getD (N + 8) 0 := by
    simp [List.getD, List.getElem?_drop, Nat.add_assoc]
  rw [e3, e4] at hi
  rw [e1, e2, ← hi]
  exact List.append_right_inj _

theorem beN_three (l : List Nat) (h4 : ¬ l.length < 4) : beN ((l.drop 1).take 3) = Fr.blen l := by
  match l, h4 with
  | k :: x1 :: x2 :: x3 :: r, _ =>
    rw [Fr.blen_cons]
    simp [beN]
    omega
  | [], h => simp at h
  | [_], h => simp at h
  | [_, _], h => simp at h
  | [_, _, _], h => simp at h

/-- bytes.Clone of whatever reads as q. -/
theorem clone_any {lo hi : Nat} (q : List Nat) (w : World) (v : Value) (hq : RdI .u8 lo hi w v (ints q)) (hn : q.length ≤ 1000000) :
    Calls Tryd.prog 29 #[v] w fun e w' => ∃ v', e = .returned v' ∧ OwnI .u8 5 w.heap.size w'.heap.size w' v' (ints q) ∧ Kp 0 0 w w' := by
  obtain ⟨ao, c, rfl, h1, h2, hcl⟩ := hq.open
  rw [ints_len] at *
  cases ao with
  | none =>
    have h0 : q = [] := by
      refine List.eq_nil_of_length_eq_zero ?_
      by_cases hp : 0 < q.length
      · obtain ⟨_, _, he, _⟩ := hcl (by rw [ints_len]; exact hp)
        cases he
      · omega
    refine (clone_nil _ _ w).mono ?_
    rintro e w' ⟨rfl, rfl⟩
    rw [h0]
    exact ⟨_, rfl, OwnI.nil _ _ _ _ _, Kp.refl _ _ _⟩
  | some a =>
    refine (clone_at a q.length c (ints q) w (ints_len q) (by omega) fun i hi => ?_).mono ?_
    · obtain ⟨g, o, he, _, _, hc⟩ := hcl (by rw [ints_len]; omega)
      cases he
      rw [Addr.add_lit]
      exact hc i (by rw [ints_len]; exact hi)
    · rintro e w' ⟨v', rfl, hown, _, hb⟩
      exact ⟨v', rfl, OwnI.of_rowN hown (ints_len q), Kp.of_below hb⟩

set_option maxRecDepth 100000 in
set_option maxHeartbeats 2000000 in
theorem getOk : GetOk := by
  intro l1 h1 l w v hl rb ht
  have HL := Lib.hid hl
  obtain ⟨ao, c, rfl, hb1, hb2, hcl⟩ := hl.open
  rw [ints_len] at hb1 HL ⊢
  have HCL := Lib.hid hcl
  have HT := Lib.hid ht
  clear hl hcl ht
  by_cases h4 : l.length < 4
  · have HP := Lib.hid (get_short h4)
    go_enter Tryd.func16, Tryd.ntmps16
    go_wp2_with fail
    go_returns
    rw [HP.out]
    exact ⟨_, rfl, OwnI.nil _ _ _ _ _, (Kp.refl _ _ _).alloc _⟩
  obtain ⟨g, o, rfl, _, _, hc⟩ := cl_nat HCL.out (by omega)
  have HKA : Hid (Kp 0 0 w (w.alloc (.cells #[.int .i64 0, .slice none 0 0] 24))) := (Kp.refl _ _ _).alloc _
  have hc0 := hc 0 (by omega)
  rw [Nat.add_zero] at hc0
  have HC := Lib.hid hc
  have b0 := nat_getD_byte rb 0
  have HRB := Lib.hid rb
  have c0 := HKA.out.cell hc0 (.inr (Nat.zero_le _))
  have j0 : (0 : Int) < (l.length : Int) := by omega
  have j01 : 0 < l.length := by omega
  have j11 : ¬ c = 1 := by omega
  have j02 : ¬ l = [] := fun h => by rw [h] at j01; cases j01
  have j1 : (1 : Int) < (c : Int) := by omega
  have jc : (4 : Int) ≤ (c : Int) := by omega
  have G2 := Lib.hid (@get_kind l h4)
  have G3 := Lib.hid (@get_long l h4)
  have G4 := Lib.hid (@get_part l h4)
  have G5 := Lib.hid (@get_whole l h4)
  have G6 := Lib.hid (@get_wrong l h4)
  have GI := Lib.hid (@whole_iff l h4 rb)
  clear hc rb hc0
  go_enter Tryd.func16, Tryd.ntmps16
  go_wp2_with fail
  have HRW : Hid ((w.alloc (.cells #[.int .i64 0, .slice none 0 0] 24)).heap[w.heap.size]? = some (.cells #[.int .i64 0, .slice none 0 0] 24 (0, 0))) := heap_alloc_new w _
  generalize w.alloc (.cells #[.int .i64 0, .slice none 0 0] 24) = wa at HKA HRW c0 ⊢
  generalize hpf : w.heap.size = pf at HRW ⊢
  have HPF := Lib.hid hpf
  clear hpf
  have HNC : Hid (∀ W, Kp 0 0 wa W → Calls Tryd.prog 28 #[.slice (some ⟨g, o + 1, none⟩) 3 (c - 1)] W fun e w' => e = .returned (.int .u32 (Fr.blen l : Nat)) ∧ Kp 0 0 wa w') := fun W hW => (number_any ((l.drop 1).take 3) W _ ((rd_mid HL.out (i := 1) (n := 3) (by omega)).keep0 (HKA.out.trans hW)) (fun x hx => HRB.out x (List.mem_of_mem_drop (List.mem_of_mem_take hx))) (by rw [List.length_take]; omega)).mono fun e w' h => by
    rw [beN_three l h4] at h
    exact ⟨h.1, by rw [h.2]; exact hW⟩
  have HKS : Hid (∀ W, Kp 0 0 wa W → W.cell? ⟨g, o, none⟩ = some (.int .u8 (l.getD 0 0 : Nat)) ∧ Kp 0 0 wa W) := fun W hW => ⟨hW.cell c0 (.inr (Nat.zero_le _)), hW⟩
  have GBL : Hid (Fr.blen l + 9 ≤ l.length → (Fr.body l).length = Fr.blen l) := Fr.body_len
  have GBR : Hid (∀ W, Kp 0 0 w W → Fr.blen l + 9 ≤ l.length → RdI .u8 l1 h1 W (.slice (some ⟨g, o + 4, none⟩) (Fr.blen l) (c - 4)) (ints (Fr.body l))) := fun W hW h => (rd_mid HL.out (by omega)).keep0 hW
  generalize l.getD 0 0 = X0 at *
  have hNB : Fr.blen l < 16777216 := by
    have x1 := nat_getD_byte HRB.out 1
    have x2 := nat_getD_byte HRB.out 2
    have x3 := nat_getD_byte HRB.out 3
    unfold Fr.blen
    omega
  generalize Fr.blen l = N at *
  have hN : IntKind.i64.wrap (N : Int) = (N : Int) := by rw [PlainAid.i64_is]; unfold wrap64; omega
  have hX : IntKind.i64.wrap (X0 : Int) = (X0 : Int) := by rw [PlainAid.i64_is]; unfold wrap64; omega
  go_region_held3 (fun w' => w'.cell? ⟨g, o, none⟩ = some (.int .u8 (X0 : Nat)) ∧ Kp 0 0 wa w')
    (first
      | exact HKS.out _ (Kp.refl 0 0 _).drew
      | exact HKS.out _ hk7)
    ((first
      | (go_at_call 28
         refine (HNC.out _ (Kp.refl 0 0 wa).drew).mono ?_
         rintro e w7 ⟨rfl, hk7⟩)))
  have HK7 := Lib.hid hk7
  rename_i hHeld
  clear hk7 hHeld
  by_cases h0 : X0 = 0
  · have HP := Lib.hid (G2.out h0)
    have hz : ((X0 : Int) == 0) = true := by rw [h0]; rfl
    clear h0
    obtain ⟨r0, f0⟩ := cell_row (HK7.out.heap HRW.out (.inr (Nat.zero_le _))) (k := 0) (by decide)
    obtain ⟨r1, f1⟩ := cell_row (HK7.out.heap HRW.out (.inr (Nat.zero_le _))) (k := 1) (by decide)
    generalize (#[Value.int .i64 0, Value.slice none 0 0] : Array Value).getD 0 undef = y0 at r0
    generalize (#[Value.int .i64 0, Value.slice none 0 0] : Array Value).getD 1 undef = y1 at r1
    go_wp2_with fail
    have rr0 := set_same (w := w7) (.int .i64 0) r0
    have rr1 : ((w7.setCell ⟨pf, 0, none⟩ (.int .i64 0)).setCell ⟨pf, 1, none⟩ (.slice none 0 0)).cell? ⟨pf, 1, none⟩ = some (.slice none 0 0) := set_two _ _ r1
    try simp only [Exit.inBlock, Exit.then]
    refine bodyPost_ret (by simp [results, Tryd.results16, go_sem, rr0, rr1]; try rfl) rfl ?_
    rw [HP.out]
    refine ⟨_, rfl, OwnI.nil _ _ _ _ _, ?_⟩
    exact ((HKA.out.trans HK7.out).setCell (.inl (Nat.le_of_eq HPF.out)) _).setCell (.inl (Nat.le_of_eq HPF.out)) _
  have hz : ((X0 : Int) == 0) = false := beq_eq_false_iff_ne.2 (by omega)
  by_cases hN6 : 65536 < N
  · have HP := Lib.hid (G3.out h0 hN6)
    obtain ⟨r0, f0⟩ := cell_row (HK7.out.heap HRW.out (.inr (Nat.zero_le _))) (k := 0) (by decide)
    obtain ⟨r1, f1⟩ := cell_row (HK7.out.heap HRW.out (.inr (Nat.zero_le _))) (k := 1) (by decide)
    generalize (#[Value.int .i64 0, Value.slice none 0 0] : Array Value).getD 0 undef = y0 at r0
    generalize (#[Value.int .i64 0, Value.slice none 0 0] : Array Value).getD 1 undef = y1 at r1
    go_wp2_with fail
    have rr0 := set_same (w := w7) (.int .i64 0) r0
    have rr1 : ((w7.setCell ⟨pf, 0, none⟩ (.int .i64 0)).setCell ⟨pf, 1, none⟩ (.slice none 0 0)).cell? ⟨pf, 1, none⟩ = some (.slice none 0 0) := set_two _ _ r1
    try simp only [Exit.inBlock, Exit.then]
    refine bodyPost_ret (by simp [results, Tryd.results16, go_sem, rr0, rr1]; try rfl) rfl ?_
    rw [HP.out]
    refine ⟨_, rfl, OwnI.nil _ _ _ _ _, ?_⟩
    exact ((HKA.out.trans HK7.out).setCell (.inl (Nat.le_of_eq HPF.out)) _).setCell (.inl (Nat.le_of_eq HPF.out)) _
  by_cases h9 : l.length < N + 9
  · have HP := Lib.hid (G4.out h0 hN6 h9)
    obtain ⟨r0, f0⟩ := cell_row (HK7.out.heap HRW.out (.inr (Nat.zero_le _))) (k := 0) (by decide)
    obtain ⟨r1, f1⟩ := cell_row (HK7.out.heap HRW.out (.inr (Nat.zero_le _))) (k := 1) (by decide)
    generalize (#[Value.int .i64 0, Value.slice none 0 0] : Array Value).getD 0 undef = y0 at r0
    generalize (#[Value.int .i64 0, Value.slice none 0 0] : Array Value).getD 1 undef = y1 at r1
    go_wp2_with fail
    have rr0 := set_same (w := w7) (.int .i64 0) r0
    have rr1 : ((w7.setCell ⟨pf, 0, none⟩ (.int .i64 0)).setCell ⟨pf, 1, none⟩ (.slice none 0 0)).cell? ⟨pf, 1, none⟩ = some (.slice none 0 0) := set_two _ _ r1
    try simp only [Exit.inBlock, Exit.then]
    refine bodyPost_ret (by simp [results, Tryd.results16, go_sem, rr0, rr1]; try rfl) rfl ?_
    rw [HP.out]
    refine ⟨_, rfl, OwnI.nil _ _ _ _ _, ?_⟩
    exact ((HKA.out.trans HK7.out).setCell (.inl (Nat.le_of_eq HPF.out)) _).setCell (.inl (Nat.le_of_eq HPF.out)) _
  go_wp2_with fail
  have HBL : Hid ((Fr.body l).length = N) := GBL.out (by omega)
  have GJ := Lib.hid (GI.out hN6 h9)
  have eT : (4 : Int) + (N : Int) + 5 = ((N + 9 : Nat) : Int) := by omega
  have eM : (4 : Int) + (N : Int) = ((N + 4 : Nat) : Int) := by omega
  rw [eT, eM]
  clear eT eM
  have eS : IntKind.i64.wrap (((N + 9 : Nat) : Int) - 1) = ((N + 8 : Nat) : Int) := by rw [PlainAid.i64_is]; unfold wrap64; omega
  have HNY : Hid (∀ n, Calls Tryd.prog 28 #[.slice (some ⟨g, o + (N + 4), none⟩) 4 (c - (N + 4))] (w7.drewN n) fun e w' => e = .returned (.int .u32 (beN ((l.drop (N + 4)).take 4) : Nat)) ∧ w' = w7.drewN n) := fun n => number_any ((l.drop (N + 4)).take 4) _ _ ((rd_mid HL.out (i := N + 4) (n := 4) (by omega)).keep0 (HKA.out.trans (HK7.out.drewN n))) (fun x hx => HRB.out x (List.mem_of_mem_drop (List.mem_of_mem_take hx))) (by rw [List.length_take]; omega)
  have HSZ : Hid (∀ n, Calls Tryd.prog 24 #[.slice (some ⟨g, o, none⟩) (N + 4) c] (w7.drewN n) fun e w' => e = .returned (.int .u32 (Crc.more 0 (l.take (N + 4)) : Nat)) ∧ ∃ m, w' = (w7.drewN n).drewN m) := fun n => by
    have h := sum_quiet (ints (l.take (N + 4))) (w7.drewN n) _ ((rd_mid HL.out (i := 0) (n := N + 4) (by omega)).keep0 (HKA.out.trans (HK7.out.drewN n))) (ints_byte fun x hx => HRB.out x (List.mem_of_mem_take hx)) (HT.out.keep (HKA.out.trans (HK7.out.drewN n)))
    rw [Nat.add_zero, Nat.sub_zero, nats_ints] at h
    exact h
  have cV := (HKA.out.trans HK7.out).cell (HC.out (N + 8) (by omega)) (.inr (Nat.zero_le _))
  have HCL : Hid (∀ W, Kp 0 0 wa W → Calls Tryd.prog 29 #[.slice (some ⟨g, o + 4, none⟩) N (c - 4)] W fun e w' => ∃ v', e = .returned v' ∧ OwnI .u8 5 W.heap.size w'.heap.size w' v' (ints (Fr.body l)) ∧ Kp 0 0 W w') := fun W hW => clone_any (Fr.body l) W _ (GBR.out W (HKA.out.trans hW) (by omega)) (by rw [HBL.out]; omega)
  generalize beN ((l.drop (N + 4)).take 4) = Y at *
  generalize Crc.more 0 (l.take (N + 4)) = Z at *
  generalize l.getD (N + 8) 0 = V at *
  have hSM : N + 8 - (N + 4) = 4 := by omega
  have hMN : N + 4 - 4 = N := by omega
  have k1 : (0 : Int) ≤ ((N + 4 : Nat) : Int) := Int.natCast_nonneg _
  have k2 : ((N + 4 : Nat) : Int) ≤ ((N + 8 : Nat) : Int) := by omega
  have k3 : ((N + 8 : Nat) : Int) ≤ (c : Int) := by omega
  have k4 : ((N + 4 : Nat) : Int) ≤ (c : Int) := by omega
  have k5 : (0 : Int) ≤ ((N + 8 : Nat) : Int) := Int.natCast_nonneg _
  have k6 : ((N + 8 : Nat) : Int) < (l.length : Int) := by omega
  have k7 : ¬ c = N + 4 := by omega
  have k8 : (4 : Int) ≤ ((N + 4 : Nat) : Int) := by omega
  have k9 : ¬ c = 4 := by omega
  have k10 : N + 4 ≤ 70000 := by omega
  have k11 : N + 8 ≤ 70000 := by omega
  have k12 : N + 9 ≤ 70000 := by omega
  have d3 : decide ((l.length : Int) < ((N + 9 : Nat) : Int)) = false := decide_eq_false (by omega)
  have d1 : decide ((l.length : Int) < 4) = false := decide_eq_false (by omega)
  have d2 : decide ((65536 : Int) < (N : Int)) = false := decide_eq_false (by omega)
  rw [d1, d2, d3]
  clear d1 d2 d3
  generalize N + 4 = M at *
  generalize N + 8 = S at *
  generalize hT : N + 9 = T at *
  have HTT := Lib.hid hT
  clear hT
  by_cases hYZ : Y = Z
  · have hb : ((Y : Int) != (Z : Int)) = false := by rw [hYZ]; simp
    by_cases hV : V = 10
    · have hb2 : ((V : Int) != 10) = false := by rw [hV]; rfl
      have HP := Lib.hid (G5.out h0 hN6 h9 (GJ.out.2 ⟨hYZ, hV⟩))
      clear hYZ hV
      go_quiet ((first
        | (go_at_call 28
           refine Calls.quiet_of_same (HNY.out _))
        | (go_at_call 24
           refine Calls.quiet_of (HSZ.out _))))
      have HK8 : Hid (Kp 0 0 wa (w7.drewN nq)) := HK7.out.drewN _
      go_wp2_with fail
      refine (HCL.out _ HK8.out).mono ?_
      rintro e w9 ⟨vb, rfl, hown, hk⟩
      obtain ⟨aob, cb, rfl, _, _, _⟩ := hown.rd.open
      rw [ints_len, HBL.out] at hown ⊢
      have HVB := Lib.hid hown
      have HK9 := Lib.hid (HK8.out.trans hk)
      have HKW := Lib.hid (HKA.out.trans (HK8.out.trans hk))
      have hsz : w.heap.size ≤ (w7.drewN nq).heap.size := (HKA.out.trans HK8.out).size
      have hszp : pf < (w7.drewN nq).heap.size := heap_lt (HK8.out.heap HRW.out (.inr (Nat.zero_le _)))
      have HSZP : Hid (w.heap.size ≤ (w7.drewN nq).heap.size ∧ pf < (w7.drewN nq).heap.size) := ⟨hsz, hszp⟩
      clear hown hk hsz hszp
      obtain ⟨r0, f0⟩ := cell_row (HK9.out.heap HRW.out (.inr (Nat.zero_le _))) (k := 0) (by decide)
      obtain ⟨r1, f1⟩ := cell_row (HK9.out.heap HRW.out (.inr (Nat.zero_le _))) (k := 1) (by decide)
      generalize (#[Value.int .i64 0, Value.slice none 0 0] : Array Value).getD 0 undef = y0 at r0
      generalize (#[Value.int .i64 0, Value.slice none 0 0] : Array Value).getD 1 undef = y1 at r1
      go_wp2_with fail
      have rr0 := set_same (w := w9) (.int .i64 (X0 : Int)) r0
      have rr1 : ((w9.setCell ⟨pf, 0, none⟩ (.int .i64 (X0 : Int))).setCell ⟨pf, 1, none⟩ (.slice aob N cb)).cell? ⟨pf, 1, none⟩ = some (.slice aob N cb) := set_two _ _ r1
      try simp only [Exit.inBlock, Exit.then]
      refine bodyPost_ret (by simp [results, Tryd.results16, go_sem, rr0, rr1]; try rfl) rfl ?_
      rw [HP.out]
      refine ⟨_, rfl, ?_, ?_⟩
      · have hkq : Kp pf (pf + 1) w9 ((w9.setCell ⟨pf, 0, none⟩ (.int .i64 (X0 : Int))).setCell ⟨pf, 1, none⟩ (.slice aob N cb)) := Kp.setCell (p := ⟨pf, 1, none⟩) (Kp.setCell (p := ⟨pf, 0, none⟩) (Kp.refl _ _ _) (.inr ⟨Nat.le_refl pf, Nat.lt_succ_self pf⟩) _) (.inr ⟨Nat.le_refl pf, Nat.lt_succ_self pf⟩) _
        have h1 := HSZP.out
        exact ((HVB.out.keep hkq fun b hb1 _ => .inr (by omega)).wide h1.1 (Nat.le_refl _)).there
      · exact (HKW.out.setCell (.inl (Nat.le_of_eq HPF.out)) _).setCell (.inl (Nat.le_of_eq HPF.out)) _
    · have hb2 : ((V : Int) != 10) = true := bne_iff_ne.2 (by omega)
      have HP := Lib.hid (G6.out h0 hN6 h9 (fun h => hV (GJ.out.1 h).2))
      clear hYZ hV
      go_quiet ((first
        | (go_at_call 28
           refine Calls.quiet_of_same (HNY.out _))
        | (go_at_call 24
           refine Calls.quiet_of (HSZ.out _))))
      have HK8 : Hid (Kp 0 0 wa (w7.drewN nq)) := HK7.out.drewN _
      obtain ⟨r0, f0⟩ := cell_row (HK8.out.heap HRW.out (.inr (Nat.zero_le _))) (k := 0) (by decide)
      obtain ⟨r1, f1⟩ := cell_row (HK8.out.heap HRW.out (.inr (Nat.zero_le _))) (k := 1) (by decide)
      generalize (#[Value.int .i64 0, Value.slice none 0 0] : Array Value).getD 0 undef = y0 at r0
      generalize (#[Value.int .i64 0, Value.slice none 0 0] : Array Value).getD 1 undef = y1 at r1
      go_wp2_with fail
      have rr0 := set_same (w := w7.drewN nq) (.int .i64 0) r0
      have rr1 : (((w7.drewN nq).setCell ⟨pf, 0, none⟩ (.int .i64 0)).setCell ⟨pf, 1, none⟩ (.slice none 0 0)).cell? ⟨pf, 1, none⟩ = some (.slice none 0 0) := set_two _ _ r1
      try simp only [Exit.inBlock, Exit.then]
      refine bodyPost_ret (by simp [results, Tryd.results16, go_sem, rr0, rr1]; try rfl) rfl ?_
      rw [HP.out]
      refine ⟨_, rfl, OwnI.nil _ _ _ _ _, ?_⟩
      exact ((HKA.out.trans HK8.out).setCell (.inl (Nat.le_of_eq HPF.out)) _).setCell (.inl (Nat.le_of_eq HPF.out)) _
  · have hb : ((Y : Int) != (Z : Int)) = true := bne_iff_ne.2 (by omega)
    have HP := Lib.hid (G6.out h0 hN6 h9 (fun h => hYZ (GJ.out.1 h).1))
    have hd : decide ((Y : Int) = (Z : Int)) = false := decide_eq_false (by omega)
    have hd2 : ((Y : Int) == (Z : Int)) = false := beq_eq_false_iff_ne.2 (by omega)
    have hd3 : (Y == Z) = false := beq_eq_false_iff_ne.2 hYZ
    have hd4 : (Y != Z) = true := bne_iff_ne.2 hYZ
    have hd5 : ¬ (Y : Int) = (Z : Int) := by omega
    go_quiet ((first
      | (go_at_call 28
         refine Calls.quiet_of_same (HNY.out _))
      | (go_at_call 24
         refine Calls.quiet_of (HSZ.out _))))
    have HK8 : Hid (Kp 0 0 wa (w7.drewN nq)) := HK7.out.drewN _
    obtain ⟨r0, f0⟩ := cell_row (HK8.out.heap HRW.out (.inr (Nat.zero_le _))) (k := 0) (by decide)
    obtain ⟨r1, f1⟩ := cell_row (HK8.out.heap HRW.out (.inr (Nat.zero_le _))) (k := 1) (by decide)
    generalize (#[Value.int .i64 0, Value.slice none 0 0] : Array Value).getD 0 undef = y0 at r0
    generalize (#[Value.int .i64 0, Value.slice none 0 0] : Array Value).getD 1 undef = y1 at r1
    go_wp2_with fail
    have rr0 := set_same (w := w7.drewN nq) (.int .i64 0) r0
    have rr1 : (((w7.drewN nq).setCell ⟨pf, 0, none⟩ (.int .i64 0)).setCell ⟨pf, 1, none⟩ (.slice none 0 0)).cell? ⟨pf, 1, none⟩ = some (.slice none 0 0) := set_two _ _ r1
    try simp only [Exit.inBlock, Exit.then]
    refine bodyPost_ret (by simp [results, Tryd.results16, go_sem, rr0, rr1]; try rfl) rfl ?_
    rw [HP.out]
    refine ⟨_, rfl, OwnI.nil _ _ _ _ _, ?_⟩
    exact ((HKA.out.trans HK8.out).setCell (.inl (Nat.le_of_eq HPF.out)) _).setCell (.inl (Nat.le_of_eq HPF.out)) _

end Go.Proofs.YtpdkfafnffihjaaDoor
