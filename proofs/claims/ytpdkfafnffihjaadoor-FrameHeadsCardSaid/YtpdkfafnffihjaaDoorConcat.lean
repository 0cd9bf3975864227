/-
  slices.Concat of two rows of bytes.
-/
import Derived.Test.YtpdkfafnffihjaaDoorClone
import Derived.Test.YtpdkfafnffihjaaDoorInts
import Derived.Test.YtpdkfafnffihjaaDoorLib
import Derived.Test.YtpdkfafnffihjaaDoorCRef2
import Derived.Handy
namespace Go.Proofs.YtpdkfafnffihjaaDoor
open Go.RowKit

set_option maxRecDepth 100000 in
set_option maxHeartbeats 2000000 in
theorem concat_two {l1 h1 l2 h2 g : Nat} (p q : List Nat) (w : World) (va vb : Value) (ha : RdI .u8 l1 h1 w va (ints p)) (hb : RdI .u8 l2 h2 w vb (ints q))
    (c0 : w.cell? ⟨g, 0, none⟩ = some va) (c1 : w.cell? ⟨g, 1, none⟩ = some vb) (h0 : 0 < p.length) (hn : p.length + q.length ≤ 1000000) :
    Calls Tryd.prog 31 #[.slice (some ⟨g, 0, none⟩) 2 2] w fun e w' => ∃ v, e = .returned v ∧ OwnI .u8 5 w.heap.size w'.heap.size w' v (ints (p ++ q)) ∧ Kp 0 0 w w' := by
  have HA := Lib.hid ha
  have HB := Lib.hid hb
  have C0 := Lib.hid c0
  have C1 := Lib.hid c1
  obtain ⟨aoa, ca, rfl, ha1, ha2, _⟩ := ha.open
  obtain ⟨aob, cb, rfl, hb1, hb2, _⟩ := hb.open
  rw [ints_len] at *
  clear ha hb
  go_enter Tryd.func31, Tryd.ntmps31
  go_wp2_with fail
  refine wp_loop_rounds 3 ?_
  rw [rounds_succ]
  go_wp2_with fail
  rw [rounds_succ]
  go_wp2_with fail
  rw [rounds_succ]
  go_wp2_with fail
  have hgrow := grow_nil (p.length + q.length) w (by omega) (by omega)
  rw [Int.natCast_add] at hgrow
  refine hgrow.mono ?_
  clear hgrow
  rintro e w1 ⟨c, rfl, hown, hbel⟩
  have HO1 := Lib.hid hown
  have HK1 : Hid (Kp 0 0 w w1) := Kp.of_below hbel
  clear hown hbel
  have d0 := HK1.out.cell C0.out (.inr (Nat.zero_le _))
  have d1 := HK1.out.cell C1.out (.inr (Nat.zero_le _))
  go_wp2_with fail
  refine wp_loop_rounds 3 ?_
  rw [rounds_succ]
  have hsz1 := HK1.out.size
  go_wp2_with (at_builtin; refine wpList_app rfl _ _ 22 rfl w.heap.size 5 .u8 1 Tryd.underlying22 info_u8 _ 0 [] rfl HO1.out _ rfl (ints p) (HA.out.keep0 HK1.out) ?c3 ?c4 ?c5 ?_)
  case c3 => rw [ints_len]; unfold maxLen; omega
  case c4 => rw [ints_len]; omega
  case c5 => exact hsz1
  intro v2 w2 hown2 hg2
  have HK2 : Hid (Kp 0 0 w w2) := HK1.out.grown hg2 fun j hj => .inl ((HO1.out.lt j hj).1)
  have HO2 := Lib.hid hown2
  have e0 := HK2.out.cell C0.out (.inr (Nat.zero_le _))
  have e1 := HK2.out.cell C1.out (.inr (Nat.zero_le _))
  have hsz2 := HK2.out.size
  clear hown2 hg2 d0 d1
  go_wp2_with fail
  rw [rounds_succ]
  go_wp2_with (at_builtin; refine wpList_app rfl _ _ 22 rfl w.heap.size 5 .u8 1 Tryd.underlying22 info_u8 _ (ints p).length ((ints p).map (.int .u8)) rfl HO2.out _ rfl (ints q) (HB.out.keep0 HK2.out) ?c3 ?c4 ?c5 ?_)
  case c3 => rw [ints_len, ints_len]; unfold maxLen; omega
  case c4 => rw [ints_len, ints_len]; omega
  case c5 => exact hsz2
  intro v3 w3 hown3 hg3
  have HK3 : Hid (Kp 0 0 w w3) := HK2.out.grown hg3 fun j hj => .inl ((HO2.out.lt j hj).1)
  have HO3 : Hid (OwnI .u8 5 w.heap.size w3.heap.size w3 v3 (ints (p ++ q))) := OwnI.of_rowN (n := (ints p).length + (ints q).length) (by
    unfold ints at hown3 ⊢
    rw [List.map_append, List.map_append]
    exact hown3) (by simp [ints])
  have f0 := HK3.out.cell C0.out (.inr (Nat.zero_le _))
  have f1 := HK3.out.cell C1.out (.inr (Nat.zero_le _))
  clear hown3 hg3 e0 e1
  go_wp2_with fail
  rw [rounds_succ]
  go_wp2_with fail
  go_returns
  exact ⟨_, rfl, HO3.out, HK3.out⟩

end Go.Proofs.YtpdkfafnffihjaaDoor
