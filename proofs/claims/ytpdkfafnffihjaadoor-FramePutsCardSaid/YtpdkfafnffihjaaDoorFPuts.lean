/-
  FramePuts as a contract, where Put and Get keep the document.
-/
import Derived.Test.YtpdkfafnffihjaaDoorFSpec
import Derived.Deep.RegionHeld3
namespace Go.Proofs.YtpdkfafnffihjaaDoor
open Go.RowKit

theorem put_len (k : Int) (b : List Nat) : (Fr.put k b).1.length ≤ b.length + 9 := by
  unfold Fr.put
  split
  · simp
  · split
    · simp
    · rw [Fr.enc_len]; exact Nat.le_refl _

theorem cell_any {w : World} {g : Nat} {cur : Array Value} {e : TypeId} (h : w.heap[g]? = some (.cells cur e (0, 0))) {k : Nat} (hk : k < cur.size) :
    ∃ y, w.cell? ⟨g, k, none⟩ = some y ∧ w.frozen? ⟨g, k, none⟩ = false := ⟨_, cell_row h hk⟩

set_option maxRecDepth 100000 in
set_option maxHeartbeats 2000000 in
theorem puts_any {h1 : Nat} (HP : PutOk) (HG : GetOk) (k : Int) (b : List Nat) (w : World) (vb : Value) (k1 : -9223372036854775808 ≤ k) (k2 : k ≤ 9223372036854775807) (hb : RdI .u8 0 h1 w vb (ints b)) (rb : ∀ x ∈ b, x < 256) (ht : Tabs w) :
    Calls Tryd.prog 3 #[.agg #[.int .i64 k, vb]] w fun e w' => e = .returned (.bool true) ∧ Kp 0 0 w w' := by
  obtain ⟨ao, c, rfl, hb1, hb2, _⟩ := hb.open
  rw [ints_len] at hb1 hb ⊢
  have HB := Lib.hid hb.there
  have RB := Lib.hid rb
  have HT := Lib.hid ht
  clear hb rb ht
  have HKA : Hid (Kp 0 0 w (w.alloc (.cells #[.int .i64 k, .slice ao b.length c] 24))) := (Kp.refl _ _ _).alloc _
  by_cases h13 : 8192 < b.length
  · go_enter Tryd.func3, Tryd.ntmps3
    go_wp2_with fail
    refine (shown_any HP HG _ (HT.out.keep HKA.out)).mono ?_
    rintro e w1 ⟨rfl, hk⟩
    go_wp2_with fail
    go_returns
    exact ⟨rfl, HKA.out.trans hk⟩
  go_enter Tryd.func3, Tryd.ntmps3
  go_wp2_with fail
  have hwa : (w.alloc (.cells #[.int .i64 k, .slice ao b.length c] 24)).heap.size = w.heap.size + 1 := by simp
  have CK : Hid ((w.alloc (.cells #[.int .i64 k, .slice ao b.length c] 24)).cell? ⟨w.heap.size, 0, none⟩ = some (.int .i64 k)) := by show _ = _; simp
  have CB : Hid ((w.alloc (.cells #[.int .i64 k, .slice ao b.length c] 24)).cell? ⟨w.heap.size, 1, none⟩ = some (.slice ao b.length c)) := by show _ = _; simp
  have d1 : decide ((8192 : Int) < (b.length : Int)) = false := decide_eq_false (by omega)
  try rw [d1]
  clear d1
  generalize w.alloc (.cells #[.int .i64 k, .slice ao b.length c] 24) = wa at HKA CK CB hwa ⊢
  generalize w.heap.size = pf at CK CB hwa ⊢
  clear hwa
  have HKS : Hid (∀ W, Kp 0 0 wa W → W.cell? ⟨pf, 0, none⟩ = some (.int .i64 k) ∧ W.cell? ⟨pf, 1, none⟩ = some (.slice ao b.length c) ∧ Kp 0 0 wa W) := fun W hW => ⟨hW.cell CK.out (.inr (Nat.zero_le _)), hW.cell CB.out (.inr (Nat.zero_le _)), hW⟩
  have HCP : Hid (∀ W, Kp 0 0 wa W → Calls Tryd.prog 11 #[.slice ao b.length c] W fun e w' => ∃ a' c', e = .returned (.slice a' b.length c') ∧ OwnI .u8 5 W.heap.size w'.heap.size w' (.slice a' b.length c') (ints b) ∧ Kp 0 0 W w' ∧ Kp 0 0 wa w') := fun W hW => (copy_any W _ (ints b) (HB.out.keep0 (HKA.out.trans hW)) (by rw [ints_len]; omega)).mono fun e w' h => by
    obtain ⟨v', he, ho, hk⟩ := h
    obtain ⟨a', c', hv, _, _, _⟩ := ho.rd.open
    rw [ints_len] at hv
    subst hv
    exact ⟨a', c', he, ho, hk, hW.trans hk⟩
  go_region_held3 (fun w' => w'.cell? ⟨pf, 0, none⟩ = some (.int .i64 k) ∧ w'.cell? ⟨pf, 1, none⟩ = some (.slice ao b.length c) ∧ Kp 0 0 wa w')
    (first
      | exact HKS.out _ (Kp.refl 0 0 _).drew
      | exact HKS.out _ ((Kp.refl 0 0 _).alloc _).drew
      | exact HKS.out _ hk7
      | exact HKS.out _ (hk7.alloc _)
      | exact HKS.out _ ((hk7.alloc _).setCell (.inl hk7.size) _)
      | exact HKS.out _ (((hk7.alloc _).setCell (.inl hk7.size) _).setCell (.inl hk7.size) _)
      | exact HKS.out _ ((hk7.setCell (.inl (Nat.le_refl _)) _).setCell (.inl (Nat.le_refl _)) _))
    ((first
      | (go_at_call 11
         refine (HCP.out _ ((Kp.refl 0 0 wa).alloc (.cells #[.int .i64 0, .slice none 0 0] 24)).drew).mono ?_
         rintro e w7 ⟨a7, c7, rfl, ho7, hr7, hk7⟩
         obtain ⟨y0, x0, f0⟩ := cell_any (hr7.heap (w := (wa.alloc (.cells #[.int .i64 0, .slice none 0 0] 24)).drew) (heap_alloc_new wa (.cells #[.int .i64 0, .slice none 0 0] 24)) (.inr (Nat.zero_le _))) (k := 0) (by decide)
         obtain ⟨y1, x1, f1⟩ := cell_any (hr7.heap (w := (wa.alloc (.cells #[.int .i64 0, .slice none 0 0] 24)).drew) (heap_alloc_new wa (.cells #[.int .i64 0, .slice none 0 0] 24)) (.inr (Nat.zero_le _))) (k := 1) (by decide))
      | (go_at_call 11
         refine (HCP.out _ (Kp.refl 0 0 wa).drew).mono ?_
         rintro e w7 ⟨a7, c7, rfl, ho7, hr7, hk7⟩)))
  all_goals
    first
    | (have CI0 : Hid (((w7.setCell ⟨wa.heap.size, 0, none⟩ (.int .i64 k)).setCell ⟨wa.heap.size, 1, none⟩ (.slice a7 b.length c7)).cell? ⟨wa.heap.size, 0, none⟩ = some (.int .i64 k)) := set_two0 _ _ x0
       have CI1 : Hid (((w7.setCell ⟨wa.heap.size, 0, none⟩ (.int .i64 k)).setCell ⟨wa.heap.size, 1, none⟩ (.slice a7 b.length c7)).cell? ⟨wa.heap.size, 1, none⟩ = some (.slice a7 b.length c7)) := set_two _ _ x1
       have HKI : Hid (Kp 0 0 wa ((w7.setCell ⟨wa.heap.size, 0, none⟩ (.int .i64 k)).setCell ⟨wa.heap.size, 1, none⟩ (.slice a7 b.length c7))) := (hk7.setCell (.inl (Nat.le_refl _)) _).setCell (.inl (Nat.le_refl _)) _
       have HKJ : Hid (Kp wa.heap.size (wa.heap.size + 1) w7 ((w7.setCell ⟨wa.heap.size, 0, none⟩ (.int .i64 k)).setCell ⟨wa.heap.size, 1, none⟩ (.slice a7 b.length c7))) := Kp.setCell (p := ⟨wa.heap.size, 1, none⟩) (Kp.setCell (p := ⟨wa.heap.size, 0, none⟩) (Kp.refl _ _ _) (.inr ⟨Nat.le_refl wa.heap.size, Nat.lt_succ_self wa.heap.size⟩) _) (.inr ⟨Nat.le_refl wa.heap.size, Nat.lt_succ_self wa.heap.size⟩) _
       have HOI : Hid (RdI .u8 0 w7.heap.size ((w7.setCell ⟨wa.heap.size, 0, none⟩ (.int .i64 k)).setCell ⟨wa.heap.size, 1, none⟩ (.slice a7 b.length c7)) (.slice a7 b.length c7) (ints b)) := (ho7.rd.keep HKJ.out fun b hb _ => .inr (by simp at hb; exact hb)).wide (Nat.zero_le _) (Nat.le_refl _)
       have HSZ : Hid (w7.heap.size ≤ ((w7.setCell ⟨wa.heap.size, 0, none⟩ (.int .i64 k)).setCell ⟨wa.heap.size, 1, none⟩ (.slice a7 b.length c7)).heap.size) := HKJ.out.size
       clear ho7 hr7 hk7 x0 x1 f0 f1 HKJ
       generalize (w7.setCell ⟨wa.heap.size, 0, none⟩ (.int .i64 k)).setCell ⟨wa.heap.size, 1, none⟩ (.slice a7 b.length c7) = WI at CI0 CI1 HKI HOI HSZ ⊢
       generalize wa.heap.size = pi at CI0 CI1 ⊢)
    | (have CI0 : Hid ((w7.alloc (.cells #[.int .i64 k, .slice a7 b.length c7] 24)).cell? ⟨w7.heap.size, 0, none⟩ = some (.int .i64 k)) := by show _ = _; simp
       have CI1 : Hid ((w7.alloc (.cells #[.int .i64 k, .slice a7 b.length c7] 24)).cell? ⟨w7.heap.size, 1, none⟩ = some (.slice a7 b.length c7)) := by show _ = _; simp
       have HKI : Hid (Kp 0 0 wa (w7.alloc (.cells #[.int .i64 k, .slice a7 b.length c7] 24))) := hk7.alloc _
       have HOI : Hid (RdI .u8 0 w7.heap.size (w7.alloc (.cells #[.int .i64 k, .slice a7 b.length c7] 24)) (.slice a7 b.length c7) (ints b)) := (ho7.rd.keep0 ((Kp.refl _ _ _).alloc _)).wide (Nat.zero_le _) (Nat.le_refl _)
       have HSZ : Hid (w7.heap.size ≤ (w7.alloc (.cells #[.int .i64 k, .slice a7 b.length c7] 24)).heap.size) := by show _ ≤ _; simp
       clear ho7 hr7 hk7
       generalize w7.alloc (.cells #[.int .i64 k, .slice a7 b.length c7] 24) = WI at CI0 CI1 HKI HOI HSZ ⊢
       generalize w7.heap.size = pi at CI0 CI1 HOI HSZ ⊢)
    have ck := HKI.out.cell CK.out (.inr (Nat.zero_le _))
    have cb := HKI.out.cell CB.out (.inr (Nat.zero_le _))
    have ci0 := CI0.out
    have ci1 := CI1.out
    go_wp2_with fail
    refine (HP _ _ k b _ _ HOI.out RB.out ⟨k1, k2⟩ (HT.out.keep (HKA.out.trans HKI.out))).mono ?_
    rintro e w8 ⟨v8, rfl, hown8, hk8⟩
    obtain ⟨a8, c8, rfl, _, _, _⟩ := hown8.rd.open
    have HO8 := Lib.hid hown8
    have HK8 := Lib.hid (HKI.out.trans hk8)
    have HI8 := Lib.hid (HOI.out.keep0 hk8)
    have ck := hk8.cell ck (.inr (Nat.zero_le _))
    have cb := hk8.cell cb (.inr (Nat.zero_le _))
    have ci1 := hk8.cell ci1 (.inr (Nat.zero_le _))
    have hpi : pi < WI.heap.size := cell_lt CI1.out
    have hpf : pf < WI.heap.size := cell_lt (HKI.out.cell CK.out (.inr (Nat.zero_le _)))
    have hw0 : w.heap.size ≤ WI.heap.size := Nat.le_trans HKA.out.size HKI.out.size
    have hs8 := hk8.size
    have HPI := Lib.hid (And.intro hpi (And.intro hpf (And.intro hw0 (And.intro HSZ.out hs8))))
    clear hown8 hk8 ci0 hpi hpf hw0 hs8
    have HPL := Lib.hid (put_len k b)
    generalize hpr : Fr.put k b = pr at *
    obtain ⟨pb, pe⟩ := pr
    simp only at HO8 ⊢
    go_wp2_with fail
    have hrp := refPut_any k b _ _ (HB.out.keep0 (HKA.out.trans HK8.out)) RB.out
    rw [hpr] at hrp
    refine hrp.mono ?_
    clear hrp
    rintro e w9 ⟨v9, rfl, hown9, hk9⟩
    obtain ⟨a9, c9, rfl, _, _, _⟩ := hown9.rd.open
    have HO9 : Hid (RdI .u8 w8.heap.size w9.heap.size w9 _ _) := hown9.rd
    have HO89 := Lib.hid (HO8.out.keep0 hk9)
    have HK9 := Lib.hid (HK8.out.trans hk9)
    have HKW9 := Lib.hid hk9
    clear hown9 hk9
    go_wp2_with fail
    refine (same_yes _ _ _ (ints pb) HO89.out.rd HO9.out).mono ?_
    rintro e w10 ⟨rfl, hk10⟩
    have HO810 := Lib.hid (HO89.out.keep0 hk10)
    have HK10 := Lib.hid (HK9.out.trans hk10)
    have HKW10 := Lib.hid (HKW9.out.trans hk10)
    clear hk10
    go_wp2_with fail
    refine (spoil_any _ _ _ HO810.out (by rw [ints_len]; have := HPL.out; omega)).mono ?_
    rintro e w11 ⟨rfl, hk11⟩
    have HK11 : Hid (Kp 0 0 wa w11) := HK10.out.step hk11 fun j h1 h2 => .inl (by have := HPI.out; have := HKI.out.size; omega)
    have hpi := HPI.out.1
    have hcx := hk11.cell (HKW10.out.cell ci1 (.inr (Nat.zero_le _))) (.inl hpi)
    have HI11 : Hid (RdI .u8 0 WI.heap.size w11 (.slice a7 b.length c7) (ints b)) := ((HI8.out.keep0 HKW10.out).wide (Nat.le_refl _) HSZ.out).keep hk11 fun j _ h => .inl h
    have HB11 := Lib.hid (HB.out.keep0 (HKA.out.trans HK11.out))
    clear ci1 cb ck hk11 hpi
    have cb := HK11.out.cell CB.out (.inr (Nat.zero_le _))
    go_wp2_with fail
    refine (same_yes _ _ _ (ints b) HI11.out HB11.out).mono ?_
    rintro e w12 ⟨rfl, hk12⟩
    have HK12 := Lib.hid (HKA.out.trans (HK11.out.trans hk12))
    clear hk12
    go_wp2_with fail
    refine (shown_any HP HG _ (HT.out.keep HK12.out)).mono ?_
    rintro e w13 ⟨rfl, hk13⟩
    go_wp2_with fail
    go_returns
    exact ⟨rfl, HK12.out.trans hk13⟩

end Go.Proofs.YtpdkfafnffihjaaDoor
