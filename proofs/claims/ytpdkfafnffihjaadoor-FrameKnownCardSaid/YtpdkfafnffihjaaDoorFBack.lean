/-
  FrameBack as a contract, where Put and Get keep the document.
-/
import Derived.Test.YtpdkfafnffihjaaDoorFSpec
import Derived.Test.YtpdkfafnffihjaaDoorFr2
namespace Go.Proofs.YtpdkfafnffihjaaDoor
open Go.RowKit

set_option maxRecDepth 100000 in
set_option maxHeartbeats 4000000 in
theorem fback_any {h1 h2 : Nat} (HP : PutOk) (HG : GetOk) (k : Int) (f l : List Nat) (w : World) (vf v : Value) (k1 : -9223372036854775808 ≤ k) (k2 : k ≤ 9223372036854775807) (hf : RdI .u8 0 h1 w vf (ints f)) (rf : ∀ x ∈ f, x < 256) (hl : RdI .u8 0 h2 w v (ints l)) (rl : ∀ x ∈ l, x < 256) (ht : Tabs w) :
    Calls Tryd.prog 6 #[.agg #[.int .i64 k, vf], v] w fun e w' => e = .returned (.bool true) ∧ Kp 0 0 w w' := by
  obtain ⟨af, cf, rfl, hf1, hf2, _⟩ := hf.open
  obtain ⟨al, cl, rfl, hl1, hl2, _⟩ := hl.open
  rw [ints_len] at hf1 hl1 hf hl ⊢
  rw [ints_len]
  have HF := Lib.hid hf
  have RF := Lib.hid rf
  have HL := Lib.hid hl
  have RL := Lib.hid rl
  have HT := Lib.hid ht
  clear hf rf hl rl ht
  have HKA : Hid (Kp 0 0 w (w.alloc (.cells #[.int .i64 k, .slice af f.length cf] 24))) := (Kp.refl _ _ _).alloc _
  by_cases h12 : 4096 < l.length
  · go_enter Tryd.func6, Tryd.ntmps6
    go_wp2_with fail
    refine (shown_any HP HG _ (HT.out.keep HKA.out)).mono ?_
    rintro e w1 ⟨rfl, hk⟩
    go_wp2_with fail
    go_returns
    exact ⟨rfl, HKA.out.trans hk⟩
  by_cases h50 : 500 < f.length
  · go_enter Tryd.func6, Tryd.ntmps6
    go_wp2_with fail
    refine (shown_any HP HG _ (HT.out.keep HKA.out)).mono ?_
    rintro e w1 ⟨rfl, hk⟩
    go_wp2_with fail
    go_returns
    exact ⟨rfl, HKA.out.trans hk⟩
  have CK : Hid ((w.alloc (.cells #[.int .i64 k, .slice af f.length cf] 24)).cell? ⟨w.heap.size, 0, none⟩ = some (.int .i64 k)) := by show _ = _; simp
  have CB : Hid ((w.alloc (.cells #[.int .i64 k, .slice af f.length cf] 24)).cell? ⟨w.heap.size, 1, none⟩ = some (.slice af f.length cf)) := by show _ = _; simp
  by_cases hok : (Fr.get l).2.2.2 = 0
  · obtain ⟨q1, q2, q3, q4, q5, q6⟩ := Fr.get_ok hok
    have HGL := Lib.hid q6
    have HEN := Lib.hid q5
    have HBB : Hid (∀ x ∈ Fr.body l, x < 256) := fun x hx => RL.out x (List.mem_of_mem_drop (List.mem_of_mem_take hx))
    have hBl := Fr.body_len q4
    have hK := getD_byte RL.out 0
    generalize l.getD 0 0 = K at *
    generalize Fr.body l = B at *
    generalize Fr.blen l = M at *
    have HPK : Hid (Fr.put (K : Int) B = (Fr.enc K B, 0)) := put_good (k := (K : Int)) (b := B) (by omega) (by omega)
    have hel2 := Fr.enc_len K B
    clear hok q1 q6 q5
    by_cases hkk : k < 1 ∨ 255 < k
    · have HPF := Lib.hid (put_bad1 f hkk)
      rcases hkk with hkk | hkk
      · go_enter Tryd.func6, Tryd.ntmps6
        go_wp2_with fail
        have hput := HP _ _ k f _ _ (HF.out.keep0 HKA.out) RF.out ⟨k1, k2⟩ (HT.out.keep HKA.out)
        rw [HPF.out] at hput
        refine hput.mono ?_
        clear hput
        rintro e w1 ⟨v1, rfl, hown1, hk1⟩
        obtain ⟨a1, c1, rfl, hc11, hc12, _⟩ := hown1.rd.open
        have HO1 := Lib.hid hown1
        have HK1 := Lib.hid (HKA.out.trans hk1)
        have ck := hk1.cell CK.out (.inr (Nat.zero_le _))
        have cb := hk1.cell CB.out (.inr (Nat.zero_le _))
        clear hown1 hk1
        have HKX : Hid (Kp 0 0 w w1) := HK1.out
        rw [show (ints ([] : List Nat)).length = 0 from rfl] at hc11 ⊢
        go_wp2_with fail
        have hget := HG _ _ l _ _ (HL.out.keep0 HKX.out) RL.out (HT.out.keep HKX.out)
        rw [HGL.out] at hget
        refine hget.mono ?_
        clear hget
        rintro e wG ⟨vb, rfl, hownG, hkG⟩
        obtain ⟨ab, cb2, rfl, _, _, _⟩ := hownG.rd.open
        rw [ints_len, hBl] at hownG ⊢
        have HOB := Lib.hid hownG.rd
        have HKG := Lib.hid (HKX.out.trans hkG)
        clear hownG hkG
        go_wp2_with fail
        have HKGA : Hid (Kp 0 0 wG (wG.alloc (.cells #[.int .i64 (K : Int), .slice ab M cb2] 24))) := (Kp.refl _ _ _).alloc _
        have hput := HP _ _ (K : Int) B _ _ (HOB.out.keep0 HKGA.out) HBB.out ⟨by omega, by omega⟩ (HT.out.keep (HKG.out.trans HKGA.out))
        rw [HPK.out] at hput
        refine hput.mono ?_
        clear hput
        rintro e wP ⟨vy, rfl, hownP, hkP⟩
        obtain ⟨ay, cy, rfl, _, _, _⟩ := hownP.rd.open
        have HOY := Lib.hid hownP.rd
        have HKP := Lib.hid ((HKG.out.trans HKGA.out).trans hkP)
        have hMc : ((M : Int) + 9) ≤ (cl : Int) := by omega
        have hMl : ((M : Int) + 9) ≤ (l.length : Int) := by omega
        have HPRE : Hid (RdI .u8 0 h2 wP (.slice al (M + 9) cl) (ints (Fr.enc K B))) := by
          have h := HL.out
          rw [← ints_len l] at h
          have h2 := (h.keep0 HKP.out).pre (n := M + 9) (by rw [ints_len]; omega)
          have e : (ints l).take (M + 9) = ints (Fr.enc K B) := by rw [← HEN.out]; unfold ints; rw [List.map_take]
          rwa [e] at h2
        clear hownP hkP
        go_wp2_with fail
        refine (same_yes _ _ _ (ints (Fr.enc K B)) HOY.out HPRE.out).mono ?_
        rintro e wS ⟨rfl, hkS⟩
        have HKS := Lib.hid (HKP.out.trans hkS)
        clear hkS
        go_wp2_with fail
        refine (shown_any HP HG _ (HT.out.keep HKS.out)).mono ?_
        rintro e wT ⟨rfl, hkT⟩
        go_wp2_with fail
        go_returns
        exact ⟨rfl, HKS.out.trans hkT⟩
      · go_enter Tryd.func6, Tryd.ntmps6
        go_wp2_with fail
        have hput := HP _ _ k f _ _ (HF.out.keep0 HKA.out) RF.out ⟨k1, k2⟩ (HT.out.keep HKA.out)
        rw [HPF.out] at hput
        refine hput.mono ?_
        clear hput
        rintro e w1 ⟨v1, rfl, hown1, hk1⟩
        obtain ⟨a1, c1, rfl, hc11, hc12, _⟩ := hown1.rd.open
        have HO1 := Lib.hid hown1
        have HK1 := Lib.hid (HKA.out.trans hk1)
        have ck := hk1.cell CK.out (.inr (Nat.zero_le _))
        have cb := hk1.cell CB.out (.inr (Nat.zero_le _))
        clear hown1 hk1
        have HKX : Hid (Kp 0 0 w w1) := HK1.out
        rw [show (ints ([] : List Nat)).length = 0 from rfl] at hc11 ⊢
        go_wp2_with fail
        have hget := HG _ _ l _ _ (HL.out.keep0 HKX.out) RL.out (HT.out.keep HKX.out)
        rw [HGL.out] at hget
        refine hget.mono ?_
        clear hget
        rintro e wG ⟨vb, rfl, hownG, hkG⟩
        obtain ⟨ab, cb2, rfl, _, _, _⟩ := hownG.rd.open
        rw [ints_len, hBl] at hownG ⊢
        have HOB := Lib.hid hownG.rd
        have HKG := Lib.hid (HKX.out.trans hkG)
        clear hownG hkG
        go_wp2_with fail
        have HKGA : Hid (Kp 0 0 wG (wG.alloc (.cells #[.int .i64 (K : Int), .slice ab M cb2] 24))) := (Kp.refl _ _ _).alloc _
        have hput := HP _ _ (K : Int) B _ _ (HOB.out.keep0 HKGA.out) HBB.out ⟨by omega, by omega⟩ (HT.out.keep (HKG.out.trans HKGA.out))
        rw [HPK.out] at hput
        refine hput.mono ?_
        clear hput
        rintro e wP ⟨vy, rfl, hownP, hkP⟩
        obtain ⟨ay, cy, rfl, _, _, _⟩ := hownP.rd.open
        have HOY := Lib.hid hownP.rd
        have HKP := Lib.hid ((HKG.out.trans HKGA.out).trans hkP)
        have hMc : ((M : Int) + 9) ≤ (cl : Int) := by omega
        have hMl : ((M : Int) + 9) ≤ (l.length : Int) := by omega
        have HPRE : Hid (RdI .u8 0 h2 wP (.slice al (M + 9) cl) (ints (Fr.enc K B))) := by
          have h := HL.out
          rw [← ints_len l] at h
          have h2 := (h.keep0 HKP.out).pre (n := M + 9) (by rw [ints_len]; omega)
          have e : (ints l).take (M + 9) = ints (Fr.enc K B) := by rw [← HEN.out]; unfold ints; rw [List.map_take]
          rwa [e] at h2
        clear hownP hkP
        go_wp2_with fail
        refine (same_yes _ _ _ (ints (Fr.enc K B)) HOY.out HPRE.out).mono ?_
        rintro e wS ⟨rfl, hkS⟩
        have HKS := Lib.hid (HKP.out.trans hkS)
        clear hkS
        go_wp2_with fail
        refine (shown_any HP HG _ (HT.out.keep HKS.out)).mono ?_
        rintro e wT ⟨rfl, hkT⟩
        go_wp2_with fail
        go_returns
        exact ⟨rfl, HKS.out.trans hkT⟩
    · obtain ⟨K1, rfl⟩ : ∃ K1 : Nat, k = K1 := ⟨k.toNat, by omega⟩
      have HPF : Hid (Fr.put (K1 : Int) f = (Fr.enc K1 f, 0)) := put_good hkk (show ¬ 65536 < f.length by omega)
      have hel := Fr.enc_len K1 f
      have HGE := Lib.hid (Fr.get_enc (k := K1) (b := f) l (by omega) (by omega))
      go_enter Tryd.func6, Tryd.ntmps6
      go_wp2_with fail
      have hput := HP _ _ (K1 : Int) f _ _ (HF.out.keep0 HKA.out) RF.out ⟨k1, k2⟩ (HT.out.keep HKA.out)
      rw [HPF.out] at hput
      refine hput.mono ?_
      clear hput
      rintro e w1 ⟨v1, rfl, hown1, hk1⟩
      obtain ⟨a1, c1, rfl, hc11, hc12, _⟩ := hown1.rd.open
      have HO1 := Lib.hid hown1
      have HK1 := Lib.hid (HKA.out.trans hk1)
      have ck := hk1.cell CK.out (.inr (Nat.zero_le _))
      have cb := hk1.cell CB.out (.inr (Nat.zero_le _))
      clear hown1 hk1
      rw [ints_len, hel] at hc11 ⊢
      have HR1 : Hid (RdI .u8 0 w1.heap.size w1 (.slice a1 (f.length + 9) c1) (ints (Fr.enc K1 f))) := by
        have h := HO1.out.rd.wide (lo' := 0) (hi' := w1.heap.size) (Nat.zero_le _) (Nat.le_refl _)
        rw [show (ints (Fr.enc K1 f, (0 : Int)).1).length = f.length + 9 by rw [ints_len]; exact hel] at h
        exact h
      have HE0 : Hid ((w1.alloc (.cells #[] 5)).ownsRow w1.heap.size 5 1 (.slice (some ⟨w1.heap.size, 0, none⟩) 0 0) 0 []) := own_lit (w := w1) (base := w1.heap.size) (n := 0) #[] 5 (Nat.le_refl _) rfl (by decide)
      have HKE : Hid (Kp 0 0 w1 (w1.alloc (.cells #[] 5))) := (Kp.refl _ _ _).alloc _
      go_wp2_with (at_builtin; refine wpList_app rfl _ _ 22 rfl w1.heap.size 5 .u8 1 Tryd.underlying22 info_u8 (.slice (some ⟨w1.heap.size, 0, none⟩) 0 0) 0 [] ?z0 HE0.out (.slice a1 (f.length + 9) c1) ?z1 (ints (Fr.enc K1 f)) (HR1.out.keep0 HKE.out) ?c3 ?c4 ?c5 ?_)
      case z0 => rfl
      case z1 => rfl
      case c3 => rw [ints_len, hel]; unfold maxLen; omega
      case c4 => rw [ints_len, hel]; omega
      case c5 => simp
      intro v3 w3 hown3 hg3
      have HK3 : Hid (Kp 0 0 w1 w3) := HKE.out.grown hg3 fun j hj => .inl (by
        simp only [Value.ownBlock, Option.some.injEq] at hj
        omega)
      have HO3 : Hid (w3.ownsRow w1.heap.size 5 1 v3 (ints (Fr.enc K1 f)).length ((ints (Fr.enc K1 f)).map (.int .u8))) := by
        show _
        first | exact hown3 | simpa using hown3
      have hs3 := HK3.out.size
      clear hown3 hg3
      go_wp2_with (at_builtin; refine wpList_app rfl _ _ 22 rfl w1.heap.size 5 .u8 1 Tryd.underlying22 info_u8 v3 (ints (Fr.enc K1 f)).length ((ints (Fr.enc K1 f)).map (.int .u8)) ?z0 HO3.out (.slice al l.length cl) ?z1 (ints l) (HL.out.keep0 (HK1.out.trans HK3.out)) ?c3 ?c4 ?c5 ?_)
      case z0 => rfl
      case z1 => rfl
      case c3 => rw [ints_len, ints_len, hel]; unfold maxLen; omega
      case c4 => rw [ints_len, ints_len, hel]; omega
      case c5 => exact hs3
      intro v4 w4 hown4 hg4
      have HK4 : Hid (Kp 0 0 w1 w4) := HK3.out.grown hg4 fun j hj => .inl ((HO3.out.lt j hj).1)
      have HO4 : Hid (RdI .u8 w1.heap.size w4.heap.size w4 v4 (ints (Fr.enc K1 f ++ l))) := (OwnI.of_rowN (l := ints (Fr.enc K1 f ++ l)) (n := (ints (Fr.enc K1 f)).length + (ints l).length) (by
        rw [show ints (Fr.enc K1 f ++ l) = ints (Fr.enc K1 f) ++ ints l from List.map_append .., List.map_append]
        simpa using hown4) (by simp [ints])).rd
      have HBX : Hid (∀ x ∈ Fr.enc K1 f ++ l, x < 256) := fun x hx => by
        rcases List.mem_append.1 hx with h | h
        · exact Fr.enc_byte (by omega) (by omega) RF.out x h
        · exact RL.out x h
      clear hown4 hg4
      go_wp2_with fail
      have hget := HG _ _ _ _ _ HO4.out HBX.out (HT.out.keep (HK1.out.trans HK4.out))
      rw [HGE.out] at hget
      refine hget.mono ?_
      clear hget
      rintro e w5 ⟨v5, rfl, hown5, hk5⟩
      obtain ⟨a5, c5, rfl, _, _, _⟩ := hown5.rd.open
      rw [ints_len] at hown5 ⊢
      have HO5 := Lib.hid hown5.rd
      have HK5 := Lib.hid (HK4.out.trans hk5)
      clear hown5 hk5
      have HKG5 : Hid (Kp 0 0 w5 (w5.alloc (.cells #[.int .i64 (K1 : Int), .slice a5 f.length c5] 24))) := (Kp.refl _ _ _).alloc _
      have ck := (HK5.out.trans HKG5.out).cell ck (.inr (Nat.zero_le _))
      have cb := (HK5.out.trans HKG5.out).cell cb (.inr (Nat.zero_le _))
      have hkk2 : ((K1 : Int) != (K1 : Int)) = false := by simp
      go_wp2_with fail
      refine (same_yes _ _ _ (ints f) (HO5.out.keep0 HKG5.out) (HF.out.keep0 (HK1.out.trans (HK5.out.trans HKG5.out)))).mono ?_
      rintro e w6 ⟨rfl, hk6⟩
      have HKX : Hid (Kp 0 0 w w6) := (HK1.out.trans (HK5.out.trans HKG5.out)).trans hk6
      clear hk6
      go_wp2_with fail
      have hget := HG _ _ l _ _ (HL.out.keep0 HKX.out) RL.out (HT.out.keep HKX.out)
      rw [HGL.out] at hget
      refine hget.mono ?_
      clear hget
      rintro e wG ⟨vb, rfl, hownG, hkG⟩
      obtain ⟨ab, cb2, rfl, _, _, _⟩ := hownG.rd.open
      rw [ints_len, hBl] at hownG ⊢
      have HOB := Lib.hid hownG.rd
      have HKG := Lib.hid (HKX.out.trans hkG)
      clear hownG hkG
      go_wp2_with fail
      have HKGA : Hid (Kp 0 0 wG (wG.alloc (.cells #[.int .i64 (K : Int), .slice ab M cb2] 24))) := (Kp.refl _ _ _).alloc _
      have hput := HP _ _ (K : Int) B _ _ (HOB.out.keep0 HKGA.out) HBB.out ⟨by omega, by omega⟩ (HT.out.keep (HKG.out.trans HKGA.out))
      rw [HPK.out] at hput
      refine hput.mono ?_
      clear hput
      rintro e wP ⟨vy, rfl, hownP, hkP⟩
      obtain ⟨ay, cy, rfl, _, _, _⟩ := hownP.rd.open
      have HOY := Lib.hid hownP.rd
      have HKP := Lib.hid ((HKG.out.trans HKGA.out).trans hkP)
      have hMc : ((M : Int) + 9) ≤ (cl : Int) := by omega
      have hMl : ((M : Int) + 9) ≤ (l.length : Int) := by omega
      have HPRE : Hid (RdI .u8 0 h2 wP (.slice al (M + 9) cl) (ints (Fr.enc K B))) := by
        have h := HL.out
        rw [← ints_len l] at h
        have h2 := (h.keep0 HKP.out).pre (n := M + 9) (by rw [ints_len]; omega)
        have e : (ints l).take (M + 9) = ints (Fr.enc K B) := by rw [← HEN.out]; unfold ints; rw [List.map_take]
        rwa [e] at h2
      clear hownP hkP
      go_wp2_with fail
      refine (same_yes _ _ _ (ints (Fr.enc K B)) HOY.out HPRE.out).mono ?_
      rintro e wS ⟨rfl, hkS⟩
      have HKS := Lib.hid (HKP.out.trans hkS)
      clear hkS
      go_wp2_with fail
      refine (shown_any HP HG _ (HT.out.keep HKS.out)).mono ?_
      rintro e wT ⟨rfl, hkT⟩
      go_wp2_with fail
      go_returns
      exact ⟨rfl, HKS.out.trans hkT⟩
  · obtain ⟨q1, q2, q3⟩ := Fr.get_bad hok
    have HGL : Hid (Fr.get l = (0, [], 0, (Fr.get l).2.2.2)) := by
      show _ = _
      conv => lhs; rw [show Fr.get l = ((Fr.get l).1, (Fr.get l).2.1, (Fr.get l).2.2.1, (Fr.get l).2.2.2) from rfl]
      rw [q1, q2, q3]
    generalize (Fr.get l).2.2.2 = E at *
    clear q1 q2 q3
    have hE : (E != 0) = true := bne_iff_ne.2 hok
    by_cases hkk : k < 1 ∨ 255 < k
    · have HPF := Lib.hid (put_bad1 f hkk)
      rcases hkk with hkk | hkk
      · go_enter Tryd.func6, Tryd.ntmps6
        go_wp2_with fail
        have hput := HP _ _ k f _ _ (HF.out.keep0 HKA.out) RF.out ⟨k1, k2⟩ (HT.out.keep HKA.out)
        rw [HPF.out] at hput
        refine hput.mono ?_
        clear hput
        rintro e w1 ⟨v1, rfl, hown1, hk1⟩
        obtain ⟨a1, c1, rfl, hc11, hc12, _⟩ := hown1.rd.open
        have HO1 := Lib.hid hown1
        have HK1 := Lib.hid (HKA.out.trans hk1)
        have ck := hk1.cell CK.out (.inr (Nat.zero_le _))
        have cb := hk1.cell CB.out (.inr (Nat.zero_le _))
        clear hown1 hk1
        have HKX : Hid (Kp 0 0 w w1) := HK1.out
        rw [show (ints ([] : List Nat)).length = 0 from rfl] at hc11 ⊢
        go_wp2_with fail
        have hget := HG _ _ l _ _ (HL.out.keep0 HKX.out) RL.out (HT.out.keep HKX.out)
        rw [HGL.out] at hget
        refine hget.mono ?_
        clear hget
        rintro e wG ⟨vb, rfl, hownG, hkG⟩
        obtain ⟨ab, cb2, rfl, _, _, _⟩ := hownG.rd.open
        have HKG := Lib.hid (HKX.out.trans hkG)
        rw [show (ints ([] : List Nat)).length = 0 from rfl]
        clear hownG hkG
        go_wp2_with fail
        refine (shown_any HP HG _ (HT.out.keep (HKG.out.alloc _))).mono ?_
        rintro e wT ⟨rfl, hkT⟩
        go_wp2_with fail
        go_returns
        exact ⟨rfl, (HKG.out.alloc _).trans hkT⟩
      · go_enter Tryd.func6, Tryd.ntmps6
        go_wp2_with fail
        have hput := HP _ _ k f _ _ (HF.out.keep0 HKA.out) RF.out ⟨k1, k2⟩ (HT.out.keep HKA.out)
        rw [HPF.out] at hput
        refine hput.mono ?_
        clear hput
        rintro e w1 ⟨v1, rfl, hown1, hk1⟩
        obtain ⟨a1, c1, rfl, hc11, hc12, _⟩ := hown1.rd.open
        have HO1 := Lib.hid hown1
        have HK1 := Lib.hid (HKA.out.trans hk1)
        have ck := hk1.cell CK.out (.inr (Nat.zero_le _))
        have cb := hk1.cell CB.out (.inr (Nat.zero_le _))
        clear hown1 hk1
        have HKX : Hid (Kp 0 0 w w1) := HK1.out
        rw [show (ints ([] : List Nat)).length = 0 from rfl] at hc11 ⊢
        go_wp2_with fail
        have hget := HG _ _ l _ _ (HL.out.keep0 HKX.out) RL.out (HT.out.keep HKX.out)
        rw [HGL.out] at hget
        refine hget.mono ?_
        clear hget
        rintro e wG ⟨vb, rfl, hownG, hkG⟩
        obtain ⟨ab, cb2, rfl, _, _, _⟩ := hownG.rd.open
        have HKG := Lib.hid (HKX.out.trans hkG)
        rw [show (ints ([] : List Nat)).length = 0 from rfl]
        clear hownG hkG
        go_wp2_with fail
        refine (shown_any HP HG _ (HT.out.keep (HKG.out.alloc _))).mono ?_
        rintro e wT ⟨rfl, hkT⟩
        go_wp2_with fail
        go_returns
        exact ⟨rfl, (HKG.out.alloc _).trans hkT⟩
    · obtain ⟨K1, rfl⟩ : ∃ K1 : Nat, k = K1 := ⟨k.toNat, by omega⟩
      have HPF : Hid (Fr.put (K1 : Int) f = (Fr.enc K1 f, 0)) := put_good hkk (show ¬ 65536 < f.length by omega)
      have hel := Fr.enc_len K1 f
      have HGE := Lib.hid (Fr.get_enc (k := K1) (b := f) l (by omega) (by omega))
      go_enter Tryd.func6, Tryd.ntmps6
      go_wp2_with fail
      have hput := HP _ _ (K1 : Int) f _ _ (HF.out.keep0 HKA.out) RF.out ⟨k1, k2⟩ (HT.out.keep HKA.out)
      rw [HPF.out] at hput
      refine hput.mono ?_
      clear hput
      rintro e w1 ⟨v1, rfl, hown1, hk1⟩
      obtain ⟨a1, c1, rfl, hc11, hc12, _⟩ := hown1.rd.open
      have HO1 := Lib.hid hown1
      have HK1 := Lib.hid (HKA.out.trans hk1)
      have ck := hk1.cell CK.out (.inr (Nat.zero_le _))
      have cb := hk1.cell CB.out (.inr (Nat.zero_le _))
      clear hown1 hk1
      rw [ints_len, hel] at hc11 ⊢
      have HR1 : Hid (RdI .u8 0 w1.heap.size w1 (.slice a1 (f.length + 9) c1) (ints (Fr.enc K1 f))) := by
        have h := HO1.out.rd.wide (lo' := 0) (hi' := w1.heap.size) (Nat.zero_le _) (Nat.le_refl _)
        rw [show (ints (Fr.enc K1 f, (0 : Int)).1).length = f.length + 9 by rw [ints_len]; exact hel] at h
        exact h
      have HE0 : Hid ((w1.alloc (.cells #[] 5)).ownsRow w1.heap.size 5 1 (.slice (some ⟨w1.heap.size, 0, none⟩) 0 0) 0 []) := own_lit (w := w1) (base := w1.heap.size) (n := 0) #[] 5 (Nat.le_refl _) rfl (by decide)
      have HKE : Hid (Kp 0 0 w1 (w1.alloc (.cells #[] 5))) := (Kp.refl _ _ _).alloc _
      go_wp2_with (at_builtin; refine wpList_app rfl _ _ 22 rfl w1.heap.size 5 .u8 1 Tryd.underlying22 info_u8 (.slice (some ⟨w1.heap.size, 0, none⟩) 0 0) 0 [] ?z0 HE0.out (.slice a1 (f.length + 9) c1) ?z1 (ints (Fr.enc K1 f)) (HR1.out.keep0 HKE.out) ?c3 ?c4 ?c5 ?_)
      case z0 => rfl
      case z1 => rfl
      case c3 => rw [ints_len, hel]; unfold maxLen; omega
      case c4 => rw [ints_len, hel]; omega
      case c5 => simp
      intro v3 w3 hown3 hg3
      have HK3 : Hid (Kp 0 0 w1 w3) := HKE.out.grown hg3 fun j hj => .inl (by
        simp only [Value.ownBlock, Option.some.injEq] at hj
        omega)
      have HO3 : Hid (w3.ownsRow w1.heap.size 5 1 v3 (ints (Fr.enc K1 f)).length ((ints (Fr.enc K1 f)).map (.int .u8))) := by
        show _
        first | exact hown3 | simpa using hown3
      have hs3 := HK3.out.size
      clear hown3 hg3
      go_wp2_with (at_builtin; refine wpList_app rfl _ _ 22 rfl w1.heap.size 5 .u8 1 Tryd.underlying22 info_u8 v3 (ints (Fr.enc K1 f)).length ((ints (Fr.enc K1 f)).map (.int .u8)) ?z0 HO3.out (.slice al l.length cl) ?z1 (ints l) (HL.out.keep0 (HK1.out.trans HK3.out)) ?c3 ?c4 ?c5 ?_)
      case z0 => rfl
      case z1 => rfl
      case c3 => rw [ints_len, ints_len, hel]; unfold maxLen; omega
      case c4 => rw [ints_len, ints_len, hel]; omega
      case c5 => exact hs3
      intro v4 w4 hown4 hg4
      have HK4 : Hid (Kp 0 0 w1 w4) := HK3.out.grown hg4 fun j hj => .inl ((HO3.out.lt j hj).1)
      have HO4 : Hid (RdI .u8 w1.heap.size w4.heap.size w4 v4 (ints (Fr.enc K1 f ++ l))) := (OwnI.of_rowN (l := ints (Fr.enc K1 f ++ l)) (n := (ints (Fr.enc K1 f)).length + (ints l).length) (by
        rw [show ints (Fr.enc K1 f ++ l) = ints (Fr.enc K1 f) ++ ints l from List.map_append .., List.map_append]
        simpa using hown4) (by simp [ints])).rd
      have HBX : Hid (∀ x ∈ Fr.enc K1 f ++ l, x < 256) := fun x hx => by
        rcases List.mem_append.1 hx with h | h
        · exact Fr.enc_byte (by omega) (by omega) RF.out x h
        · exact RL.out x h
      clear hown4 hg4
      go_wp2_with fail
      have hget := HG _ _ _ _ _ HO4.out HBX.out (HT.out.keep (HK1.out.trans HK4.out))
      rw [HGE.out] at hget
      refine hget.mono ?_
      clear hget
      rintro e w5 ⟨v5, rfl, hown5, hk5⟩
      obtain ⟨a5, c5, rfl, _, _, _⟩ := hown5.rd.open
      rw [ints_len] at hown5 ⊢
      have HO5 := Lib.hid hown5.rd
      have HK5 := Lib.hid (HK4.out.trans hk5)
      clear hown5 hk5
      have HKG5 : Hid (Kp 0 0 w5 (w5.alloc (.cells #[.int .i64 (K1 : Int), .slice a5 f.length c5] 24))) := (Kp.refl _ _ _).alloc _
      have ck := (HK5.out.trans HKG5.out).cell ck (.inr (Nat.zero_le _))
      have cb := (HK5.out.trans HKG5.out).cell cb (.inr (Nat.zero_le _))
      have hkk2 : ((K1 : Int) != (K1 : Int)) = false := by simp
      go_wp2_with fail
      refine (same_yes _ _ _ (ints f) (HO5.out.keep0 HKG5.out) (HF.out.keep0 (HK1.out.trans (HK5.out.trans HKG5.out)))).mono ?_
      rintro e w6 ⟨rfl, hk6⟩
      have HKX : Hid (Kp 0 0 w w6) := (HK1.out.trans (HK5.out.trans HKG5.out)).trans hk6
      clear hk6
      go_wp2_with fail
      have hget := HG _ _ l _ _ (HL.out.keep0 HKX.out) RL.out (HT.out.keep HKX.out)
      rw [HGL.out] at hget
      refine hget.mono ?_
      clear hget
      rintro e wG ⟨vb, rfl, hownG, hkG⟩
      obtain ⟨ab, cb2, rfl, _, _, _⟩ := hownG.rd.open
      have HKG := Lib.hid (HKX.out.trans hkG)
      rw [show (ints ([] : List Nat)).length = 0 from rfl]
      clear hownG hkG
      go_wp2_with fail
      refine (shown_any HP HG _ (HT.out.keep (HKG.out.alloc _))).mono ?_
      rintro e wT ⟨rfl, hkT⟩
      go_wp2_with fail
      go_returns
      exact ⟨rfl, (HKG.out.alloc _).trans hkT⟩

end Go.Proofs.YtpdkfafnffihjaaDoor
