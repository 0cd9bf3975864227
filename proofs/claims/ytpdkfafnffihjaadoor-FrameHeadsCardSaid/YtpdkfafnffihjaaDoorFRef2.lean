/-
  The document's answer for package frame: Get.
-/
import Derived.Test.YtpdkfafnffihjaaDoorFRef
import Derived.Deep.QuietTactic
namespace Go.Proofs.YtpdkfafnffihjaaDoor
open Go.RowKit

theorem nat_getD_byte {l : List Nat} (h : ∀ x ∈ l, x < 256) (i : Nat) : l.getD i 0 < 256 := getD_byte h i

/-- The cells of a list of bytes, place by place. -/
theorem cl_nat {lo hi : Nat} {w : World} {ao : Option Addr} {l : List Nat} (h : Cl .u8 lo hi w ao (ints l)) (h0 : 0 < l.length) : ∃ g o, ao = some ⟨g, o, none⟩ ∧ lo ≤ g ∧ g < hi ∧ ∀ j, j < l.length → w.cell? ⟨g, o + j, none⟩ = some (.int .u8 (l.getD j 0 : Nat)) := by
  obtain ⟨g, o, e, h1, h2, h3⟩ := h (by rw [ints_len]; exact h0)
  refine ⟨g, o, e, h1, h2, fun j hj => ?_⟩
  rw [h3 j (by rw [ints_len]; exact hj)]
  simp [ints, List.getD, hj]

theorem get_short {l : List Nat} (h : l.length < 4) : Fr.get l = (0, [], 0, 4) := by unfold Fr.get; rw [if_pos h]
theorem get_kind {l : List Nat} (h : ¬ l.length < 4) (h2 : l.getD 0 0 = 0) : Fr.get l = (0, [], 0, 2) := by unfold Fr.get; rw [if_neg h, if_pos h2]
theorem get_long {l : List Nat} (h : ¬ l.length < 4) (h2 : l.getD 0 0 ≠ 0) (h3 : 65536 < Fr.blen l) : Fr.get l = (0, [], 0, 5) := by unfold Fr.get; rw [if_neg h, if_neg h2, if_pos h3]
theorem get_part {l : List Nat} (h : ¬ l.length < 4) (h2 : l.getD 0 0 ≠ 0) (h3 : ¬ 65536 < Fr.blen l) (h4 : l.length < Fr.blen l + 9) : Fr.get l = (0, [], 0, 4) := by unfold Fr.get; rw [if_neg h, if_neg h2, if_neg h3, if_pos h4]
theorem get_whole {l : List Nat} (h : ¬ l.length < 4) (h2 : l.getD 0 0 ≠ 0) (h3 : ¬ 65536 < Fr.blen l) (h4 : ¬ l.length < Fr.blen l + 9) (h5 : l.take (Fr.blen l + 9) = Fr.enc (l.getD 0 0) (Fr.body l)) : Fr.get l = (l.getD 0 0, Fr.body l, Fr.blen l + 9, 0) := by unfold Fr.get; rw [if_neg h, if_neg h2, if_neg h3, if_neg h4, if_pos h5]
theorem get_wrong {l : List Nat} (h : ¬ l.length < 4) (h2 : l.getD 0 0 ≠ 0) (h3 : ¬ 65536 < Fr.blen l) (h4 : ¬ l.length < Fr.blen l + 9) (h5 : l.take (Fr.blen l + 9) ≠ Fr.enc (l.getD 0 0) (Fr.body l)) : Fr.get l = (0, [], 0, 6) := by unfold Fr.get; rw [if_neg h, if_neg h2, if_neg h3, if_neg h4, if_neg h5]

theorem set_same {w : World} {a : Addr} {u : Value} (v : Value) (h : w.cell? a = some u) : (w.setCell a v).cell? a = some v := World.cell?_setCell_same' w a v (by rw [h]; rfl)

theorem set_two {w : World} {b : Nat} {u : Value} (v v' : Value) (h : w.cell? ⟨b, 1, none⟩ = some u) : ((w.setCell ⟨b, 0, none⟩ v).setCell ⟨b, 1, none⟩ v').cell? ⟨b, 1, none⟩ = some v' := by
  refine set_same (u := u) v' ?_
  rw [← h]
  simp [World.cell?, World.setCell, Array.getElem?_modify]
  cases w.heap[b]? with
  | none => rfl
  | some ob => cases ob <;> simp

theorem set_two0 {w : World} {b : Nat} {u : Value} (v v' : Value) (h : w.cell? ⟨b, 0, none⟩ = some u) : ((w.setCell ⟨b, 0, none⟩ v).setCell ⟨b, 1, none⟩ v').cell? ⟨b, 0, none⟩ = some v := by
  have h1 := set_same (u := u) v h
  rw [← h1]
  simp [World.cell?, World.setCell, Array.getElem?_modify]
  cases w.heap[b]? with
  | none => rfl
  | some ob => cases ob <;> simp

/-- A part of a list of bytes. -/
theorem rd_mid {lo hi g o c i n : Nat} {w : World} {l : List Nat} (h : RdI .u8 lo hi w (.slice (some ⟨g, o, none⟩) l.length c) (ints l)) (hn : i + n ≤ l.length) : RdI .u8 lo hi w (.slice (some ⟨g, o + i, none⟩) n (c - i)) (ints ((l.drop i).take n)) := by
  rw [← ints_len l] at h
  have h1 := h.suf (n := i) (by rw [ints_len]; omega)
  have e1 : (ints l).length - i = ((ints l).drop i).length := by rw [List.length_drop]
  rw [Option.map_some, Addr.add_lit, e1] at h1
  have h2 := h1.pre (n := n) (by rw [List.length_drop, ints_len]; omega)
  have e2 : ((ints l).drop i).take n = ints ((l.drop i).take n) := by
    unfold ints
    rw [List.map_take, List.map_drop]
  rwa [e2] at h2

/-- What Get answers, as values. -/
def GotV (w : World) (e : Ending) (w' : World) (r : Nat × List Nat × Nat × Int) : Prop :=
  ∃ vb, e = .returned (.tuple #[.agg #[.int .i64 (r.1 : Nat), vb], .int .i64 (r.2.2.1 : Nat), .int .i64 r.2.2.2]) ∧ OwnI .u8 5 w.heap.size w'.heap.size w' vb (ints r.2.1) ∧ Kp 0 0 w w'

set_option maxRecDepth 100000 in
set_option maxHeartbeats 2000000 in
theorem refGet_any {l1 h1 : Nat} (l : List Nat) (w : World) (v : Value) (hl : RdI .u8 l1 h1 w v (ints l)) (rb : ∀ x ∈ l, x < 256) :
    Calls Tryd.prog 17 #[v] w fun e w' => GotV w e w' (Fr.get l) := by
  have HL := Lib.hid hl
  obtain ⟨ao, c, rfl, hb1, hb2, hcl⟩ := hl.open
  rw [ints_len] at hb1 HL ⊢
  have HCL := Lib.hid hcl
  clear hl hcl
  by_cases h4 : l.length < 4
  · have HP := Lib.hid (get_short h4)
    go_enter Tryd.func17, Tryd.ntmps17
    go_wp2_with fail
    go_returns
    rw [HP.out]
    exact ⟨_, rfl, OwnI.nil _ _ _ _ _, (Kp.refl _ _ _).alloc _⟩
  obtain ⟨g, o, rfl, _, _, hc⟩ := cl_nat HCL.out (by omega)
  have HKA : Hid (Kp 0 0 w (w.alloc (.cells #[.int .i64 0, .slice none 0 0] 24))) := (Kp.refl _ _ _).alloc _
  have c0 := HKA.out.cell (hc 0 (by omega)) (.inr (Nat.zero_le _))
  have c1 := HKA.out.cell (hc 1 (by omega)) (.inr (Nat.zero_le _))
  have c2 := HKA.out.cell (hc 2 (by omega)) (.inr (Nat.zero_le _))
  have c3 := HKA.out.cell (hc 3 (by omega)) (.inr (Nat.zero_le _))
  rw [Nat.add_zero] at c0
  have hc0 := hc 0 (by omega)
  rw [Nat.add_zero] at hc0
  have C0 := Lib.hid hc0
  clear hc0
  have HC := Lib.hid hc
  clear hc
  have b0 := nat_getD_byte rb 0
  have b1 := nat_getD_byte rb 1
  have b2 := nat_getD_byte rb 2
  have b3 := nat_getD_byte rb 3
  have HBL : Hid (Fr.blen l = 65536 * l.getD 1 0 + 256 * l.getD 2 0 + l.getD 3 0) := rfl
  have G2 := Lib.hid (@get_kind l h4)
  have G3 := Lib.hid (@get_long l h4)
  have G4 := Lib.hid (@get_part l h4)
  have G5 := Lib.hid (@get_whole l h4)
  have G6 := Lib.hid (@get_wrong l h4)
  generalize l.getD 0 0 = X0 at *
  generalize l.getD 1 0 = X1 at *
  generalize l.getD 2 0 = X2 at *
  generalize l.getD 3 0 = X3 at *
  by_cases h0 : X0 = 0
  · have HP := Lib.hid (G2.out h0)
    subst h0
    go_enter Tryd.func17, Tryd.ntmps17
    go_wp2_with fail
    go_returns
    rw [HP.out]
    exact ⟨_, rfl, OwnI.nil _ _ _ _ _, (Kp.refl _ _ _).alloc _⟩
  have hz0 : ((X0 : Int) == 0) = false := beq_eq_false_iff_ne.2 (by omega)
  have hen : (65536 : Int) * (X1 : Int) + 256 * (X2 : Int) + (X3 : Int) = (Fr.blen l : Int) := by
    rw [HBL.out]
    omega
  have HB9 : Hid (Fr.blen l + 9 ≤ l.length → (Fr.body l).length = Fr.blen l) := Fr.body_len
  have HBY : Hid (∀ x ∈ Fr.body l, x < 256) := fun x hx => rb x (List.mem_of_mem_drop (List.mem_of_mem_take hx))
  have HBR : Hid (Fr.blen l + 9 ≤ l.length → RdI .u8 l1 h1 w (.slice (some ⟨g, o + 4, none⟩) (4 + Fr.blen l - 4) (c - 4)) (ints (Fr.body l))) := fun h => by
    rw [show 4 + Fr.blen l - 4 = Fr.blen l by omega]
    exact rd_mid HL.out (by omega)
  generalize Fr.blen l = N at *
  generalize Fr.body l = body at *
  have j1 : (1 : Int) < (l.length : Int) := by omega
  have j2 : (2 : Int) < (l.length : Int) := by omega
  have j3 : (3 : Int) < (l.length : Int) := by omega
  have jc : (4 : Int) ≤ (c : Int) := by omega
  have n0 : (0 : Int) ≤ (N : Int) := Int.natCast_nonneg _
  by_cases hN : 65536 < N
  · have HP := Lib.hid (G3.out h0 hN)
    go_enter Tryd.func17, Tryd.ntmps17
    go_wp2_with fail
    go_quiet (fail)
    go_wp2_with fail
    go_returns
    rw [HP.out]
    refine ⟨_, rfl, OwnI.nil _ _ _ _ _, ?_⟩
    exact ((HKA.out.drewN _).setCell (.inl (Nat.le_refl _)) _).setCell (.inl (Nat.le_refl _)) _
  by_cases h9 : l.length < N + 9
  · have HP := Lib.hid (G4.out h0 hN h9)
    go_enter Tryd.func17, Tryd.ntmps17
    go_wp2_with fail
    go_quiet (fail)
    go_wp2_with fail
    go_returns
    rw [HP.out]
    refine ⟨_, rfl, OwnI.nil _ _ _ _ _, ?_⟩
    exact ((HKA.out.drewN _).setCell (.inl (Nat.le_refl _)) _).setCell (.inl (Nat.le_refl _)) _
  have jc9 : (9 : Int) ≤ (c : Int) := by omega
  have j4n : (4 : Int) + (N : Int) ≤ (c : Int) := by omega
  go_enter Tryd.func17, Tryd.ntmps17
  go_wp2_with fail
  go_quiet (fail)
  go_wp2_with (at_builtin; refine wpList_app rfl _ _ 22 rfl (w.heap.size + 1) 5 .u8 1 Tryd.underlying22 info_u8 _ 0 [] rfl (World.ownsRow_nil _ _ _ _) _ rfl (ints body) ((HBR.out (by omega)).keep0 (HKA.out.drewN _)) ?c3 ?c4 ?c5 ?_)
  case c3 => rw [ints_len, HB9.out (by omega)]; unfold maxLen; omega
  case c4 => rw [ints_len, HB9.out (by omega)]; omega
  case c5 => simp
  intro vb w2 hown' hg
  have HK2 : Hid (Kp 0 0 w w2) := (HKA.out.drewN _).grown hg fun j hj => by simp [Value.ownBlock] at hj
  have HKA2 : Hid (Kp 0 0 (w.alloc (.cells #[.int .i64 0, .slice none 0 0] 24)) w2) := ((Kp.refl _ _ _).drewN _).grown hg fun j hj => by simp [Value.ownBlock] at hj
  have hbl := HB9.out (by omega)
  have HVB : Hid (OwnI .u8 5 (w.heap.size + 1) w2.heap.size w2 vb (ints body)) := OwnI.of_rowN (n := 0 + (ints body).length) (by simpa using hown') (by omega)
  clear hown' hg c0 c1 c2 c3
  have hvr := HVB.out.rd.open
  obtain ⟨aob, cb, rfl, _, _, _⟩ := hvr
  rw [ints_len, hbl] at HVB ⊢
  have c0 := HK2.out.cell C0.out (.inr (Nat.zero_le _))
  have hpg : Fr.put (X0 : Int) body = (Fr.enc X0 body, 0) := put_good (by omega) (by omega)
  go_wp2_with fail
  have HKF : Hid (Kp 0 0 w2 (w2.alloc (.cells #[.int .i64 (X0 : Int), .slice aob N cb] 24))) := (Kp.refl _ _ _).alloc _
  have CF0 : Hid ((w2.alloc (.cells #[.int .i64 (X0 : Int), .slice aob N cb] 24)).cell? ⟨w2.heap.size, 0, none⟩ = some (.int .i64 (X0 : Int))) := by show _ = _; simp
  have CF1 : Hid ((w2.alloc (.cells #[.int .i64 (X0 : Int), .slice aob N cb] 24)).cell? ⟨w2.heap.size, 1, none⟩ = some (.slice aob N cb)) := by show _ = _; simp
  generalize w2.alloc (.cells #[.int .i64 (X0 : Int), .slice aob N cb] 24) = wf at HKF CF0 CF1 ⊢
  generalize w2.heap.size = pf at CF0 CF1 ⊢
  have hput := refPut_any (X0 : Int) body _ _ (HVB.out.keep0 HKF.out).rd HBY.out
  rw [hpg] at hput
  refine hput.mono ?_
  clear hput hpg
  rintro e w3 ⟨vw, rfl, hown, hk⟩
  have HKF3 := Lib.hid hk
  have HRB : Hid (w3.heap[w.heap.size]? = some (.cells #[.int .i64 0, .slice none 0 0] 24 (0, 0))) := ((HKA2.out.trans HKF.out).trans hk).heap (heap_alloc_new w _) (.inr (Nat.zero_le _))
  have HK3 := Lib.hid ((HK2.out.trans HKF.out).trans hk)
  have HVB3 := Lib.hid ((HVB.out.keep0 HKF.out).keep0 hk)
  have hel := Fr.enc_len X0 body
  obtain ⟨aow, cw, rfl, hw1, hw2, hclw⟩ := hown.rd.open
  rw [ints_len, hel, hbl] at hw1 ⊢
  have hcw := cl_nat hclw (by rw [hel]; omega)
  obtain ⟨gw, ow, rfl, _, _, hcw⟩ := hcw
  have HCW := Lib.hid hcw
  have HEQ : Hid ((∀ j, j < N + 9 → l.getD j 0 = (Fr.enc X0 body).getD j 0) → l.take (N + 9) = Fr.enc X0 body) := fun h => by
    refine List.ext_getElem (by rw [List.length_take, hel, hbl]; omega) fun j h1 h2 => ?_
    rw [hel, hbl] at h2
    have := h j h2
    have hjl : j < l.length := by omega
    have hje : j < (Fr.enc X0 body).length := by rw [hel, hbl]; exact h2
    simpa [List.getD, hjl, hje] using this
  have HNE : Hid (∀ j, j < N + 9 → l.getD j 0 ≠ (Fr.enc X0 body).getD j 0 → l.take (N + 9) ≠ Fr.enc X0 body) := fun j hj hne he => hne (by
    rw [← he]
    have hjl : j < l.length := by omega
    simp [List.getD, hjl, hj])
  generalize Fr.enc X0 body = en at *
  clear hown hk hclw hcw c0
  go_wp2_with fail
  have d1 : decide ((l.length : Int) < 4) = false := decide_eq_false (by omega)
  have d2 : decide ((65536 : Int) < (N : Int)) = false := decide_eq_false (by omega)
  have d3 : decide ((l.length : Int) < (N : Int) + 9) = false := decide_eq_false (by omega)
  try rw [d1, d2, d3]
  clear d1 d2 d3
  go_loopw [10] (fun i wr => ∃ q : Nat, q ≤ N + 9 ∧ i = .int .i64 q ∧ Hid (∀ j, j < q → l.getD j 0 = en.getD j 0) ∧ Kp 0 0 w3 wr) (fun i _ => N + 9 - (intOf i).toNat)
  case atStart => exact ⟨0, Nat.zero_le _, rfl, fun j hj => by omega, Kp.refl _ _ _⟩
  case round =>
    obtain ⟨q, hq, rfl, HALL, hkp⟩ := hrel
    have q0 : (0 : Int) ≤ (q : Int) := Int.natCast_nonneg _
    by_cases hlt : q < N + 9
    · have c1 := ((HK3.out.trans hkp)).cell (HC.out q (by omega)) (.inr (Nat.zero_le _))
      have c2 := hkp.cell (HCW.out q (by rw [hel, hbl]; exact hlt)) (.inr (Nat.zero_le _))
      have HNQ := Lib.hid (HNE.out q hlt)
      have HGE : Hid (l.getD q 0 = en.getD q 0 → ∀ j, j < q + 1 → l.getD j 0 = en.getD j 0) := fun h j hj => by
        by_cases hjq : j = q
        · rw [hjq]; exact h
        · exact HALL.out j (by omega)
      have q1 : (q : Int) < (l.length : Int) := by omega
      have q2 : (q : Int) < (N : Int) + 9 := by omega
      generalize l.getD q 0 = x at c1 HNQ HGE
      generalize en.getD q 0 = y at c2 HNQ HGE
      by_cases hxy : x = y
      · subst hxy
        have hb : ((x : Int) != (x : Int)) = false := by simp
        go_wp2_with fail
        go_quiet (fail)
        go_wp2_with fail
        go_roundw
        case rel => exact ⟨q + 1, by omega, by go_num, HGE.out trivial, hkp.drewN _⟩
        case measure => simp [intOf]; omega
      · have hb : ((x : Int) != (y : Int)) = true := bne_iff_ne.2 (by omega)
        have HP := Lib.hid (G6.out h0 hN h9 (HNQ.out hxy))
        obtain ⟨r0, f0⟩ := cell_row (hkp.heap HRB.out (.inr (Nat.zero_le _))) (k := 0) (by decide)
        obtain ⟨r1, f1⟩ := cell_row (hkp.heap HRB.out (.inr (Nat.zero_le _))) (k := 1) (by decide)
        generalize (#[Value.int .i64 0, Value.slice none 0 0] : Array Value).getD 0 undef = y0 at r0
        generalize (#[Value.int .i64 0, Value.slice none 0 0] : Array Value).getD 1 undef = y1 at r1
        go_wp2_with fail
        go_quiet (fail)
        go_wp2_with fail
        have rr0 := set_same (w := wr.drewN nq) (.int .i64 0) r0
        have rr1 : (((wr.drewN nq).setCell ⟨w.heap.size, 0, none⟩ (.int .i64 0)).setCell ⟨w.heap.size, 1, none⟩ (.slice none 0 0)).cell? ⟨w.heap.size, 1, none⟩ = some (.slice none 0 0) := set_two _ _ r1
        try simp only [Exit.inBlock, Exit.then]
        refine bodyPost_ret (by simp [results, Tryd.results17, go_sem, rr0, rr1]; try rfl) rfl ?_
        rw [HP.out]
        refine ⟨_, rfl, OwnI.nil _ _ _ _ _, ?_⟩
        exact (((HK3.out.trans hkp).drewN nq).setCell (.inl (Nat.le_refl _)) _).setCell (.inl (Nat.le_refl _)) _
    · obtain rfl : q = N + 9 := by omega
      have HP := Lib.hid (G5.out h0 hN h9 (HEQ.out HALL.out))
      obtain ⟨r0, f0⟩ := cell_row (hkp.heap HRB.out (.inr (Nat.zero_le _))) (k := 0) (by decide)
      obtain ⟨r1, f1⟩ := cell_row (hkp.heap HRB.out (.inr (Nat.zero_le _))) (k := 1) (by decide)
      generalize (#[Value.int .i64 0, Value.slice none 0 0] : Array Value).getD 0 undef = y0 at r0
      generalize (#[Value.int .i64 0, Value.slice none 0 0] : Array Value).getD 1 undef = y1 at r1
      have cf0 := (HKF3.out.trans hkp).cell CF0.out (.inr (Nat.zero_le _))
      have cf1 := (HKF3.out.trans hkp).cell CF1.out (.inr (Nat.zero_le _))
      go_wp2_with fail
      have rr0 := set_same (w := wr) (.int .i64 (X0 : Int)) r0
      have rr1 : ((wr.setCell ⟨w.heap.size, 0, none⟩ (.int .i64 (X0 : Int))).setCell ⟨w.heap.size, 1, none⟩ (.slice aob N cb)).cell? ⟨w.heap.size, 1, none⟩ = some (.slice aob N cb) := set_two _ _ r1
      try simp only [Exit.inBlock, Exit.then]
      refine bodyPost_ret (by simp [results, Tryd.results17, go_sem, rr0, rr1]; try rfl) rfl ?_
      rw [HP.out]
      refine ⟨_, rfl, ?_, ?_⟩
      · have hkq : Kp w.heap.size (w.heap.size + 1) w3 ((wr.setCell ⟨w.heap.size, 0, none⟩ (.int .i64 (X0 : Int))).setCell ⟨w.heap.size, 1, none⟩ (.slice aob N cb)) := Kp.setCell (p := ⟨w.heap.size, 1, none⟩) (Kp.setCell (p := ⟨w.heap.size, 0, none⟩) hkp.any (.inr ⟨Nat.le_refl w.heap.size, Nat.lt_succ_self w.heap.size⟩) _) (.inr ⟨Nat.le_refl w.heap.size, Nat.lt_succ_self w.heap.size⟩) _
        exact ((HVB3.out.keep hkq fun b hb1 _ => .inr hb1).wide (Nat.le_succ _) (Nat.le_refl _)).there
      · exact ((HK3.out.trans hkp).setCell (.inl (Nat.le_refl _)) _).setCell (.inl (Nat.le_refl _)) _

end Go.Proofs.YtpdkfafnffihjaaDoor
