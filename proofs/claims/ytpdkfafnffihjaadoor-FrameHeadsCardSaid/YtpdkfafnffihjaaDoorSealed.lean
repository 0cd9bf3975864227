/-
  The contracts of package frame's sealed and Put, and that Put keeps the document.
-/
import Derived.Test.YtpdkfafnffihjaaDoorConcat
import Derived.Test.YtpdkfafnffihjaaDoorFSpec
namespace Go.Proofs.YtpdkfafnffihjaaDoor
open Go.RowKit

set_option maxRecDepth 100000 in
set_option maxHeartbeats 2000000 in
theorem sealed_two {l1 h1 l2 h2 g : Nat} (p q : List Nat) (w : World) (va vb : Value) (ha : RdI .u8 l1 h1 w va (ints p)) (hb : RdI .u8 l2 h2 w vb (ints q))
    (c0 : w.cell? ⟨g, 0, none⟩ = some va) (c1 : w.cell? ⟨g, 1, none⟩ = some vb) (h0 : 0 < p.length) (hn : p.length + q.length ≤ 1000000) (hpq : ∀ x ∈ p ++ q, x < 256) (ht : Tabs w) :
    Calls Tryd.prog 25 #[.slice (some ⟨g, 0, none⟩) 2 2] w fun e w' => ∃ v, e = .returned v ∧ OwnI .u8 5 w.heap.size w'.heap.size w' v (ints (p ++ q ++ (Fr.be4 (Crc.more 0 (p ++ q)) ++ [10]))) ∧ Kp 0 0 w w' := by
  have HC := Lib.hid (concat_two p q w va vb ha hb c0 c1 h0 hn)
  have HPQ := Lib.hid hpq
  have HT := Lib.hid ht
  have hl : (p ++ q).length ≤ 1000000 := by rw [List.length_append]; exact hn
  have hl0 : 0 < (p ++ q).length := by rw [List.length_append]; omega
  generalize p ++ q = r at *
  clear hpq ht ha hb c0 c1
  go_enter Tryd.func25, Tryd.ntmps25
  go_wp2_with fail
  refine HC.out.mono ?_
  rintro e w1 ⟨v1, rfl, hown, hk⟩
  have HO1 := Lib.hid hown
  have HK1 := Lib.hid hk
  clear hown hk
  obtain ⟨ao1, cc1, rfl, hr1, hr2, _⟩ := HO1.out.rd.open
  rw [ints_len] at *
  go_wp2_with fail
  have hsum := sum_any _ _ _ HO1.out.rd (ints_byte HPQ.out) (HT.out.keep HK1.out)
  rw [nats_ints] at hsum
  refine hsum.mono ?_
  clear hsum
  rintro e w2 ⟨rfl, hk⟩
  have HO2 := Lib.hid (HO1.out.keep0 hk)
  have HK2 := Lib.hid (HK1.out.trans hk)
  have HSL : Crc.more 0 r < 4294967296 := Crc.more_lt (by decide) HPQ.out
  generalize hsg : Crc.more 0 r = s at HSL ⊢
  have HSG := Lib.hid hsg
  clear hk hsg
  have HL5 : Hid (RdI .u8 w2.heap.size (w2.heap.size + 1) (w2.alloc (.cells #[.int .u8 ((s : Int) / 16777216), .int .u8 ((s : Int) / 65536 % 256), .int .u8 ((s : Int) / 256 % 256), .int .u8 ((s : Int) % 256), .int .u8 10] 5)) (.slice (some ⟨w2.heap.size, 0, none⟩) 5 5) [(s : Int) / 16777216, (s : Int) / 65536 % 256, (s : Int) / 256 % 256, (s : Int) % 256, 10]) := lit_rd .u8 5 w2 [(s : Int) / 16777216, (s : Int) / 65536 % 256, (s : Int) / 256 % 256, (s : Int) % 256, 10] (by simp; decide)
  have HT5 : Hid (ints (Fr.be4 s ++ [10]) = [(s : Int) / 16777216, (s : Int) / 65536 % 256, (s : Int) / 256 % 256, (s : Int) % 256, 10]) := by
    show _ = _
    simp [ints, Fr.be4]
  have hoi := HO2.out.1
  rw [ints_len] at hoi
  have hsz2 := HK2.out.size
  generalize hz : ([(s : Int) / 16777216, (s : Int) / 65536 % 256, (s : Int) / 256 % 256, (s : Int) % 256, 10] : List Int) = tl at HL5 HT5
  have htl : tl.length = 5 := by rw [← hz]; rfl
  clear hz
  go_wp2_with (at_builtin; refine wpList_app rfl _ _ 22 rfl w.heap.size 5 .u8 1 Tryd.underlying22 info_u8 _ r.length ((ints r).map (.int .u8)) rfl (hoi.alloc _) _ rfl tl HL5.out ?c3 ?c4 ?c5 ?_)
  case c3 => rw [htl]; unfold maxLen; omega
  case c4 => rw [htl]; omega
  case c5 => simp; omega
  intro v' w3 hown' hg
  have HK3 : Hid (Kp 0 0 w w3) := (HK2.out.alloc _).grown hg fun j hj => .inl ((hoi.lt j hj).1)
  have HOF : Hid (OwnI .u8 5 w.heap.size w3.heap.size w3 v' (ints (r ++ (Fr.be4 s ++ [10])))) := by
    refine OwnI.of_rowN (n := r.length + tl.length) ?_ ?_
    · rw [show ints (r ++ (Fr.be4 s ++ [10])) = ints r ++ ints (Fr.be4 s ++ [10]) from List.map_append .., HT5.out, List.map_append]
      rw [htl]
      exact hown'
    · rw [htl]
      simp [ints, Fr.be4]
  clear hown' hg hoi
  go_wp2_with fail
  go_returns
  rw [HSG.out]
  exact ⟨_, rfl, HOF.out, HK3.out⟩

set_option maxRecDepth 100000 in
set_option maxHeartbeats 2000000 in
theorem putOk : PutOk := by
  intro l1 h1 k b w vb hb rb hk0 ht
  obtain ⟨ao, c, rfl, hb1, hb2, _⟩ := hb.open
  rw [ints_len] at *
  have HB := Lib.hid hb
  have HT := Lib.hid ht
  have RB := Lib.hid rb
  clear hb ht rb
  by_cases hk : k < 1 ∨ 255 < k
  · have HP := Lib.hid (put_bad1 b hk)
    rcases hk with hk | hk
    · go_enter Tryd.func12, Tryd.ntmps12
      go_wp2_with fail
      go_returns
      rw [HP.out]
      exact ⟨_, rfl, OwnI.nil _ _ _ _ _, (Kp.refl _ _ _).alloc _⟩
    · go_enter Tryd.func12, Tryd.ntmps12
      go_wp2_with fail
      go_returns
      rw [HP.out]
      exact ⟨_, rfl, OwnI.nil _ _ _ _ _, (Kp.refl _ _ _).alloc _⟩
  by_cases hl : 65536 < b.length
  · have HP := Lib.hid (put_bad2 hk hl)
    have hk1 : ¬ k < 1 := fun h => hk (.inl h)
    have hk2 : ¬ 255 < k := fun h => hk (.inr h)
    go_enter Tryd.func12, Tryd.ntmps12
    go_wp2_with fail
    go_returns
    rw [HP.out]
    exact ⟨_, rfl, OwnI.nil _ _ _ _ _, (Kp.refl _ _ _).alloc _⟩
  have HP := Lib.hid (put_good hk hl)
  obtain ⟨K, rfl⟩ : ∃ K : Nat, k = K := ⟨k.toNat, by omega⟩
  have hK1 : 1 ≤ K := by omega
  have hK2 : K ≤ 255 := by omega
  rw [Int.toNat_natCast] at HP
  clear hk hk0
  go_enter Tryd.func12, Tryd.ntmps12
  go_wp2_with fail
  have HKA : Hid (Kp 0 0 w (w.alloc (.cells #[.int .i64 (K : Int), .slice ao b.length c] 24))) := (Kp.refl _ _ _).alloc _
  have hs1 : (w.alloc (.cells #[.int .i64 (K : Int), .slice ao b.length c] 24)).heap.size = w.heap.size + 1 := by simp
  generalize w.alloc (.cells #[.int .i64 (K : Int), .slice ao b.length c] 24) = w1 at HKA hs1 ⊢
  have HHD : Hid (RdI .u8 (w.heap.size + 1) (w.heap.size + 1 + 1) (w1.alloc (.cells #[.int .u8 (K : Int), .int .u8 ((b.length : Int) / 65536), .int .u8 ((b.length : Int) / 256 % 256), .int .u8 ((b.length : Int) % 256)] 5)) (.slice (some ⟨w.heap.size + 1, 0, none⟩) 4 4) (ints (Fr.head K b.length))) := by
    have h := lit_ints 5 w1 (Fr.head K b.length) (show 4 ≤ maxLen by decide)
    rw [hs1] at h
    show RdI _ _ _ _ _ _
    simpa [ints, Fr.head] using h
  have HKB : Hid (Kp 0 0 w1 (w1.alloc (.cells #[.int .u8 (K : Int), .int .u8 ((b.length : Int) / 65536), .int .u8 ((b.length : Int) / 256 % 256), .int .u8 ((b.length : Int) % 256)] 5))) := (Kp.refl _ _ _).alloc _
  have hs2 : (w1.alloc (.cells #[.int .u8 (K : Int), .int .u8 ((b.length : Int) / 65536), .int .u8 ((b.length : Int) / 256 % 256), .int .u8 ((b.length : Int) % 256)] 5)).heap.size = w.heap.size + 1 + 1 := by simp [hs1]
  generalize w1.alloc (.cells #[.int .u8 (K : Int), .int .u8 ((b.length : Int) / 65536), .int .u8 ((b.length : Int) / 256 % 256), .int .u8 ((b.length : Int) % 256)] 5) = w2 at HHD HKB hs2 ⊢
  have hc0 : (w2.alloc (.cells #[.slice (some ⟨w.heap.size + 1, 0, none⟩) 4 4, .slice ao b.length c] 22)).cell? ⟨w.heap.size + 1 + 1, 0, none⟩ = some (.slice (some ⟨w.heap.size + 1, 0, none⟩) 4 4) := by
    rw [← hs2]
    simp
  have hc1 : (w2.alloc (.cells #[.slice (some ⟨w.heap.size + 1, 0, none⟩) 4 4, .slice ao b.length c] 22)).cell? ⟨w.heap.size + 1 + 1, 1, none⟩ = some (.slice ao b.length c) := by
    rw [← hs2]
    simp
  have HKC : Hid (Kp 0 0 w2 (w2.alloc (.cells #[.slice (some ⟨w.heap.size + 1, 0, none⟩) 4 4, .slice ao b.length c] 22))) := (Kp.refl _ _ _).alloc _
  generalize w2.alloc (.cells #[.slice (some ⟨w.heap.size + 1, 0, none⟩) 4 4, .slice ao b.length c] 22) = w3 at HKC hc0 hc1 ⊢
  have HK3 : Hid (Kp 0 0 w w3) := (HKA.out.trans HKB.out).trans HKC.out
  have hcall := sealed_two (Fr.head K b.length) b w3 _ _ (HHD.out.keep0 HKC.out) (HB.out.keep0 HK3.out) hc0 hc1 (by simp [Fr.head]) (by simp [Fr.head]; omega) (Fr.hb_byte (by omega) (by omega) RB.out) (HT.out.keep HK3.out)
  refine hcall.mono ?_
  clear hcall hc0 hc1
  rintro e w4 ⟨v, rfl, hown, hk⟩
  have HOF : Hid (OwnI .u8 5 w3.heap.size w4.heap.size w4 v (ints (Fr.enc K b))) := hown
  have HK4 := Lib.hid (HK3.out.trans hk)
  clear hown hk
  go_wp2_with fail
  go_returns
  rw [HP.out]
  exact ⟨_, rfl, HOF.out.wide HK3.out.size (Nat.le_refl _), HK4.out⟩

end Go.Proofs.YtpdkfafnffihjaaDoor
