/-
  quaysidelaw03.row: the bytes of frames, one behind the other, and where each one ends.
-/
import Derived.Test.YtpdkfafnffihjaaDoorRight
import Derived.Test.YtpdkfafnffihjaaDoorFSpec
import Derived.Test.YtpdkfafnffihjaaDoorFr3
namespace Go.Proofs.YtpdkfafnffihjaaDoor
open Go.RowKit

/-- Where the first k frames end. -/
def endsN (gs : List (Nat × List Nat)) (k : Nat) : List Int := (List.range k).map fun i => ((Fr.rows (gs.take (i + 1))).length : Int)

theorem endsN_len (gs : List (Nat × List Nat)) (k : Nat) : (endsN gs k).length = k := by simp [endsN]
theorem endsN_snoc (gs : List (Nat × List Nat)) (k : Nat) : endsN gs (k + 1) = endsN gs k ++ [((Fr.rows (gs.take (k + 1))).length : Int)] := by simp [endsN, List.range_succ]
theorem endsN_get (gs : List (Nat × List Nat)) {k i : Nat} (h : i < k) : (endsN gs k).getD i 0 = ((Fr.rows (gs.take (i + 1))).length : Int) := by simp [endsN, List.getD, h]

theorem info_int : (Tryd.prog.info? 3).map (fun i => (i.zero, i.size, i.bytes)) = some (some (.int .i64 0), 1, 8) := by kernel_rfl

theorem rows_snoc {gs : List (Nat × List Nat)} {k : Nat} (h : k < gs.length) : Fr.rows (gs.take (k + 1)) = Fr.rows (gs.take k) ++ Fr.enc (gs.getD k (0, [])).1 (gs.getD k (0, [])).2 := by
  rw [List.take_succ_eq_append_getElem h, Fr.rows_app, Fr.rows_one]
  simp [List.getD, h]

theorem Good.rows_le {gs : List (Nat × List Nat)} (h : Good gs) (h20 : gs.length ≤ 20) (k : Nat) : (Fr.rows (gs.take k)).length ≤ 10180 := by
  have h1 := Fr.rows_len (gs.take k) 500 fun f hf => (h f (List.mem_of_mem_take hf)).2.2.1
  have h2 : (gs.take k).length ≤ 20 := by rw [List.length_take]; omega
  omega

theorem Good.get {gs : List (Nat × List Nat)} (h : Good gs) {k : Nat} (hk : k < gs.length) : 1 ≤ (gs.getD k (0, [])).1 ∧ (gs.getD k (0, [])).1 ≤ 255 ∧ (gs.getD k (0, [])).2.length ≤ 500 ∧ ∀ x ∈ (gs.getD k (0, [])).2, x < 256 :=
  h _ (by simp [List.getD, hk])

set_option maxRecDepth 100000 in
set_option maxHeartbeats 1000000 in
theorem row_any {h1 : Nat} (HP : PutOk) (gs : List (Nat × List Nat)) (w : World) (v : Value) (hr : RdF 0 h1 w v (asF gs)) (hg : Good gs) (h20 : gs.length ≤ 20) (ht : Tabs w) :
    Calls Tryd.prog 22 #[v] w fun e w' => ∃ vb ve, e = .returned (.tuple #[vb, ve]) ∧ OwnI .u8 5 w.heap.size w'.heap.size w' vb (ints (Fr.rows gs)) ∧ OwnI .i64 3 w.heap.size w'.heap.size w' ve (endsN gs gs.length) ∧ Kp 0 0 w w' := by
  obtain ⟨ao, c, rfl, ha1, ha2, ha3⟩ := hr
  rw [asF_len] at ha1 ha3 ⊢
  have HA := Lib.hid ha3
  have HG := Lib.hid hg
  have HT := Lib.hid ht
  have hmax : gs.length ≤ 9223372036854775807 := by omega
  obtain ⟨i0, hi, hz0, hz1, hz2⟩ := info_parts info_int
  clear ha1 ha2 ha3 hg ht
  go_enter Tryd.func22, Tryd.ntmps22
  go_wp2_with fail
  go_loopw [4, 5, 6] (fun vb ve i wr => ∃ k : Nat, i = .int .i64 k ∧ k ≤ gs.length ∧ Hid (OwnI .u8 5 w.heap.size wr.heap.size wr vb (ints (Fr.rows (gs.take k)))) ∧ Hid (OwnI .i64 3 w.heap.size wr.heap.size wr ve (endsN gs k)) ∧ Kp 0 0 w wr) (fun _ _ i _ => gs.length - (intOf i).toNat)
  case atStart => exact ⟨0, rfl, Nat.zero_le _, OwnI.nil _ _ _ _ _, OwnI.nil _ _ _ _ _, Kp.refl _ _ _⟩
  case round =>
    obtain ⟨k, rfl, hk, HOB, HOE, hkp⟩ := hrel
    have HKP := Lib.hid hkp
    by_cases hlt : k < gs.length
    · obtain ⟨g1, o1, rfl, _, _, hc1⟩ := HA.out (by omega)
      obtain ⟨c1, v1, d1, r1⟩ := hc1 k hlt
      rw [asF_get gs k hlt] at c1 r1
      simp only at c1 r1
      obtain ⟨ab, cb, rfl, hb1, hb2, _⟩ := r1.open
      have c1 := hkp.cell c1 (.inr (Nat.zero_le _))
      have d1 := hkp.cell d1 (.inr (Nat.zero_le _))
      have R1 := Lib.hid (r1.keep0 hkp)
      obtain ⟨q1, q2, q3, q4⟩ := HG.out.get hlt
      have HRS := Lib.hid (rows_snoc hlt)
      have HES := Lib.hid (endsN_snoc gs k)
      have hle1 := HG.out.rows_le h20 k
      have hle2 := HG.out.rows_le h20 (k + 1)
      have Q4 := Lib.hid q4
      clear hc1 r1 hkp q4
      rw [ints_len] at hb1 d1 R1
      generalize (gs.getD k (0, [])).1 = X at *
      generalize (gs.getD k (0, [])).2 = y at *
      generalize hB : Fr.rows (gs.take k) = B at *
      generalize hB2 : Fr.rows (gs.take (k + 1)) = B2 at *
      have HBK := Lib.hid hB2.symm
      clear hB hB2
      have hBl : B2.length = B.length + (y.length + 9) := by rw [HRS.out, List.length_append, Fr.enc_len]
      go_wp2_with fail
      have hput := HP _ _ (X : Int) y _ _ R1.out Q4.out ⟨by omega, by omega⟩ (HT.out.keep HKP.out)
      rw [put_good (k := (X : Int)) (b := y) (by omega) (by omega)] at hput
      refine hput.mono ?_
      clear hput
      rintro e w1 ⟨vx, rfl, hownx, hkx⟩
      obtain ⟨ax, cx, rfl, _, _, _⟩ := hownx.rd.open
      have HKX := Lib.hid hkx
      have HX : Hid (RdI .u8 wr.heap.size w1.heap.size w1 (.slice ax (y.length + 9) cx) (ints (Fr.enc X y))) := by
        have h := hownx.rd
        rw [ints_len] at h
        rw [show (Fr.enc (X : Int).toNat y, (0 : Int)).1 = Fr.enc X y from rfl, Fr.enc_len] at h
        exact h
      have HB1 := Lib.hid (HOB.out.keep0 hkx)
      have HE1 := Lib.hid (HOE.out.keep0 hkx)
      have hsz := HKP.out.size
      have hsz1 := hkx.size
      rw [show (ints (Fr.enc (X : Int).toNat y, (0 : Int)).1).length = y.length + 9 by rw [ints_len]; exact Fr.enc_len _ _]
      clear hownx hkx
      have HBR : Hid (w1.ownsRow w.heap.size 5 1 u4 B.length ((ints B).map (.int .u8))) := by
        have h := HB1.out.1
        rw [ints_len] at h
        exact h
      go_wp2_with (at_builtin; refine wpList_app rfl _ _ 22 rfl w.heap.size 5 .u8 1 Tryd.underlying22 info_u8 u4 B.length ((ints B).map (.int .u8)) ?z0 HBR.out (.slice ax (y.length + 9) cx) ?z1 (ints (Fr.enc X y)) HX.out ?c3 ?c4 ?c5 ?_)
      case z0 => rfl
      case z1 => rfl
      case c3 => rw [ints_len, Fr.enc_len]; unfold maxLen; omega
      case c4 => rw [ints_len, Fr.enc_len]; omega
      case c5 => omega
      intro v3 w3 hown3 hg3
      have hbl := ownsRow_block HBR.out
      have HE3 := Lib.hid ((HE1.out.grown hg3 hbl (by decide)).there)
      have HK3 : Hid (Kp 0 0 w w3) := (HKP.out.trans HKX.out).grown hg3 fun j hj => .inl ((HBR.out.lt j hj).1)
      have HB3 : Hid (w3.ownsRow w.heap.size 5 1 v3 B2.length ((ints B2).map (.int .u8))) := by
        show World.ownsRow _ _ _ _ _ _ _
        rw [HRS.out, List.length_append, show ints (B ++ Fr.enc X y) = ints B ++ ints (Fr.enc X y) from List.map_append .., List.map_append]
        rw [ints_len] at hown3
        exact hown3
      obtain ⟨a3, c3, rfl⟩ := ownsRow_shape HB3.out
      rw [ints_len, Fr.enc_len, ← hBl] at *
      have hs3 := HK3.out.size
      clear hown3 hg3 hbl
      have HER : Hid ((w3.alloc (.cells #[.int .i64 (B2.length : Int)] 3)).ownsRow w.heap.size 3 1 u5 k ((endsN gs k).map (.int .i64))) := by
        have h := HE3.out.1
        rw [endsN_len] at h
        exact h.alloc _
      go_wp2_with (at_builtin; refine wpList_append_own _ rfl _ _ 41 rfl w.heap.size 3 i0 (.int .i64 0) 1 8 Tryd.underlying41 hi hz0 hz1 hz2 rfl (by decide) u5 _ _ rfl HER.out ⟨w3.heap.size, 0, none⟩ 1 1 [.int .i64 (B2.length : Int)] rfl rfl (cell_one _ _ _) (by simp [Value.oneCell']) ?c3 ?c4 ?c5 ?_)
      case c3 => unfold maxLen; omega
      case c4 => omega
      case c5 => first | omega | (simp; omega)
      intro v4 w4 hown4 hg4 _
      have HK4 : Hid (Kp 0 0 w w4) := (HK3.out.alloc _).grown hg4 fun j hj => .inl ((HER.out.lt j hj).1)
      have hbl := ownsRow_block HER.out
      have HB4 : Hid (OwnI .u8 5 w.heap.size w4.heap.size w4 (.slice a3 B2.length c3) (ints B2)) := by
        have h : OwnI .u8 5 w.heap.size w3.heap.size w3 (.slice a3 B2.length c3) (ints B2) := OwnI.of_rowN HB3.out (ints_len B2)
        exact ((h.keep0 ((Kp.refl _ _ _).alloc _)).grown hg4 hbl (by decide)).there
      have HE4 : Hid (OwnI .i64 3 w.heap.size w4.heap.size w4 v4 (endsN gs (k + 1))) := by
        rw [HES.out]
        refine OwnI.of_rowN (n := k + 1) ?_ (by rw [List.length_append, endsN_len]; rfl)
        rw [List.map_append]
        exact hown4
      clear hown4 hg4 hbl
      go_wp2_with fail
      go_roundw
      case rel => exact ⟨k + 1, by go_num, by omega, HBK.out ▸ HB4, HE4, HK4.out⟩
      case measure => simp [intOf]; omega
    · obtain rfl : k = gs.length := by omega
      rw [List.take_length] at HOB
      go_wp2_with fail
      go_returns
      exact ⟨_, _, rfl, HOB.out, HOE.out, HKP.out⟩

end Go.Proofs.YtpdkfafnffihjaaDoor
