/-
  DeclKnown as a contract.
-/
import Derived.Test.YtgokhagbknlfaaaDlMany
namespace Go.Proofs.Ytgokhagbknlfaaa
open Go.RowKit
set_option maxRecDepth 100000

/-- Blocks laid one behind the other. -/
def alls (w : World) (os : List Obj) : World := os.foldl World.alloc w
theorem alls_kp : ∀ (os : List Obj) (w : World), Kp 0 0 w (alls w os)
  | [], w => Kp.refl _ _ _
  | o :: os, w => ((Kp.refl 0 0 w).alloc o).trans (alls_kp os (w.alloc o))
theorem alls_at {c : Array Value} {e : TypeId} : ∀ {os : List Obj} {w : World} {i : Nat}, os[i]? = some (.cells c e (0, 0)) → (alls w os).heap[w.heap.size + i]? = some (.cells c e (0, 0))
  | [], _, _, h => by simp at h
  | o :: os, w, 0, h => by
    simp at h
    subst h
    exact (alls_kp os _).heap (heap_alloc_new w _) (.inr (Nat.zero_le _))
  | o :: os, w, i + 1, h => by
    have h2 := alls_at (os := os) (w := w.alloc o) (i := i) (by simpa using h)
    rw [show (w.alloc o).heap.size = w.heap.size + 1 by simp, Nat.add_assoc, Nat.add_comm 1 i] at h2
    exact h2
theorem lit_at {K : IntKind} {e : TypeId} {w : World} {g : Nat} {zs : List Int} (h : w.heap[g]? = some (.cells (zs.map (.int K)).toArray e (0, 0))) (hl : zs.length ≤ maxLen) : RdI K g w.heap.size w (.slice (some ⟨g, 0, none⟩) zs.length zs.length) zs := by
  have h1 : w.ownsRow g e 1 (.slice (some ⟨g, 0, none⟩) zs.length zs.length) zs.length (zs.map (.int K)) := ⟨by simp, .inr ⟨g, zs.length, _, rfl, Nat.le_refl _, h, Nat.le_refl _, hl, by simp, by rw [Nat.mul_one, ← List.length_map (f := Value.int K), List.take_length]⟩⟩
  exact (OwnI.of_row h1).rd

namespace Dl
def bs : List (List Int) := [[], [1], [1, 20], [1, 1, 1, 1, 1, 1, 1, 1, 1, 2], [0, 0], [0, 0, 0], [17, 1]]
def want : List Int := [4, 4, 3, 3, 0, 5, 3]
theorem wants : ∀ k, k < 7 → (get (bs.getD k [])).2 = want.getD k 0 := by decide +kernel
theorem bs_bytes : ∀ k, k < 7 → (∀ y ∈ bs.getD k [], 0 ≤ y ∧ y < 256) ∧ (bs.getD k []).length ≤ 10 := by decide
end Dl

set_option maxRecDepth 100000 in
set_option maxHeartbeats 4000000 in
theorem dknown_any {P : World → Prop} (HP : DKeeps P) (HPU : DPutOk P) (HGE : DGetOk P) (w : World) (hp : P w) :
    Calls Try.prog 6 #[] w fun r w' => r = .returned (.bool true) ∧ Kp 0 0 w w' := by
  have HPW : Hid (∀ W, Kp 0 0 w W → P W) := fun W hW => HP w W hp hW
  clear hp
  go_enter Try.func6, Try.ntmps6
  go_wp2_with fail
  go_loopw [1] (fun i wr => ∃ k : Nat, k ≤ 41 ∧ i = .int .i64 k ∧ Kp 0 0 w wr) (fun i _ => 41 - (intOf i).toNat)
  case atStart => exact ⟨0, Nat.zero_le _, rfl, Kp.refl _ _ _⟩
  case round =>
    obtain ⟨k, hk, rfl, hkp⟩ := hrel
    have HKP := Lib.hid hkp
    clear hkp
    by_cases hlt : k < 41
    · have k1 : (k : Int) < 41 := by omega
      have HM := Lib.hid (dmany_any HP HPU HGE (k : Int) wr (by omega) (by omega) (HPW.out _ HKP.out))
      go_wp2_with fail
      refine HM.out.mono ?_
      rintro r w2 ⟨rfl, hk2⟩
      have HK2 := Lib.hid (HKP.out.trans hk2)
      clear hk2
      go_wp2_with fail
      go_roundw
      case rel => exact ⟨k + 1, by omega, by go_num, HK2.out⟩
      case measure => simp [intOf]; omega
    · have k1 : ¬ (k : Int) < 41 := by omega
      go_upto_region 8 with fail
      change Code.wp _ _ _ _ (alls wr [.cells #[] 5, .cells #[.int .u8 1] 5, .cells #[.int .u8 1, .int .u8 20] 5, .cells #[.int .u8 1, .int .u8 1, .int .u8 1, .int .u8 1, .int .u8 1, .int .u8 1, .int .u8 1, .int .u8 1, .int .u8 1, .int .u8 2] 5, .cells #[.int .u8 0, .int .u8 0] 5, .cells #[.int .u8 0, .int .u8 0, .int .u8 0] 5, .cells #[.int .u8 17, .int .u8 1] 5, .cells #[.slice (some ⟨wr.heap.size, 0, none⟩) 0 0, .slice (some ⟨wr.heap.size + 1, 0, none⟩) 1 1, .slice (some ⟨wr.heap.size + 1 + 1, 0, none⟩) 2 2, .slice (some ⟨wr.heap.size + 1 + 1 + 1, 0, none⟩) 10 10, .slice (some ⟨wr.heap.size + 1 + 1 + 1 + 1, 0, none⟩) 2 2, .slice (some ⟨wr.heap.size + 1 + 1 + 1 + 1 + 1, 0, none⟩) 3 3, .slice (some ⟨wr.heap.size + 1 + 1 + 1 + 1 + 1 + 1, 0, none⟩) 2 2] 26, .cells #[.int .i64 4, .int .i64 4, .int .i64 3, .int .i64 3, .int .i64 0, .int .i64 5, .int .i64 3] 30])
      have HKA : Hid (Kp 0 0 wr (alls wr [.cells #[] 5, .cells #[.int .u8 1] 5, .cells #[.int .u8 1, .int .u8 20] 5, .cells #[.int .u8 1, .int .u8 1, .int .u8 1, .int .u8 1, .int .u8 1, .int .u8 1, .int .u8 1, .int .u8 1, .int .u8 1, .int .u8 2] 5, .cells #[.int .u8 0, .int .u8 0] 5, .cells #[.int .u8 0, .int .u8 0, .int .u8 0] 5, .cells #[.int .u8 17, .int .u8 1] 5, .cells #[.slice (some ⟨wr.heap.size, 0, none⟩) 0 0, .slice (some ⟨wr.heap.size + 1, 0, none⟩) 1 1, .slice (some ⟨wr.heap.size + 1 + 1, 0, none⟩) 2 2, .slice (some ⟨wr.heap.size + 1 + 1 + 1, 0, none⟩) 10 10, .slice (some ⟨wr.heap.size + 1 + 1 + 1 + 1, 0, none⟩) 2 2, .slice (some ⟨wr.heap.size + 1 + 1 + 1 + 1 + 1, 0, none⟩) 3 3, .slice (some ⟨wr.heap.size + 1 + 1 + 1 + 1 + 1 + 1, 0, none⟩) 2 2] 26, .cells #[.int .i64 4, .int .i64 4, .int .i64 3, .int .i64 3, .int .i64 0, .int .i64 5, .int .i64 3] 30])) := alls_kp _ _
      have HB : Hid (∀ k, k < 7 → (alls wr [.cells #[] 5, .cells #[.int .u8 1] 5, .cells #[.int .u8 1, .int .u8 20] 5, .cells #[.int .u8 1, .int .u8 1, .int .u8 1, .int .u8 1, .int .u8 1, .int .u8 1, .int .u8 1, .int .u8 1, .int .u8 1, .int .u8 2] 5, .cells #[.int .u8 0, .int .u8 0] 5, .cells #[.int .u8 0, .int .u8 0, .int .u8 0] 5, .cells #[.int .u8 17, .int .u8 1] 5, .cells #[.slice (some ⟨wr.heap.size, 0, none⟩) 0 0, .slice (some ⟨wr.heap.size + 1, 0, none⟩) 1 1, .slice (some ⟨wr.heap.size + 1 + 1, 0, none⟩) 2 2, .slice (some ⟨wr.heap.size + 1 + 1 + 1, 0, none⟩) 10 10, .slice (some ⟨wr.heap.size + 1 + 1 + 1 + 1, 0, none⟩) 2 2, .slice (some ⟨wr.heap.size + 1 + 1 + 1 + 1 + 1, 0, none⟩) 3 3, .slice (some ⟨wr.heap.size + 1 + 1 + 1 + 1 + 1 + 1, 0, none⟩) 2 2] 26, .cells #[.int .i64 4, .int .i64 4, .int .i64 3, .int .i64 3, .int .i64 0, .int .i64 5, .int .i64 3] 30]).heap[wr.heap.size + k]? = some (.cells ((Dl.bs.getD k []).map (.int .u8)).toArray 5 (0, 0))) := fun k hk => by
        have : k = 0 ∨ k = 1 ∨ k = 2 ∨ k = 3 ∨ k = 4 ∨ k = 5 ∨ k = 6 := by omega
        rcases this with rfl | rfl | rfl | rfl | rfl | rfl | rfl <;> exact alls_at rfl
      have HRO : Hid ((alls wr [.cells #[] 5, .cells #[.int .u8 1] 5, .cells #[.int .u8 1, .int .u8 20] 5, .cells #[.int .u8 1, .int .u8 1, .int .u8 1, .int .u8 1, .int .u8 1, .int .u8 1, .int .u8 1, .int .u8 1, .int .u8 1, .int .u8 2] 5, .cells #[.int .u8 0, .int .u8 0] 5, .cells #[.int .u8 0, .int .u8 0, .int .u8 0] 5, .cells #[.int .u8 17, .int .u8 1] 5, .cells #[.slice (some ⟨wr.heap.size, 0, none⟩) 0 0, .slice (some ⟨wr.heap.size + 1, 0, none⟩) 1 1, .slice (some ⟨wr.heap.size + 1 + 1, 0, none⟩) 2 2, .slice (some ⟨wr.heap.size + 1 + 1 + 1, 0, none⟩) 10 10, .slice (some ⟨wr.heap.size + 1 + 1 + 1 + 1, 0, none⟩) 2 2, .slice (some ⟨wr.heap.size + 1 + 1 + 1 + 1 + 1, 0, none⟩) 3 3, .slice (some ⟨wr.heap.size + 1 + 1 + 1 + 1 + 1 + 1, 0, none⟩) 2 2] 26, .cells #[.int .i64 4, .int .i64 4, .int .i64 3, .int .i64 3, .int .i64 0, .int .i64 5, .int .i64 3] 30]).heap[wr.heap.size + 1 + 1 + 1 + 1 + 1 + 1 + 1]? = some (.cells #[.slice (some ⟨wr.heap.size, 0, none⟩) 0 0, .slice (some ⟨wr.heap.size + 1, 0, none⟩) 1 1, .slice (some ⟨wr.heap.size + 1 + 1, 0, none⟩) 2 2, .slice (some ⟨wr.heap.size + 1 + 1 + 1, 0, none⟩) 10 10, .slice (some ⟨wr.heap.size + 1 + 1 + 1 + 1, 0, none⟩) 2 2, .slice (some ⟨wr.heap.size + 1 + 1 + 1 + 1 + 1, 0, none⟩) 3 3, .slice (some ⟨wr.heap.size + 1 + 1 + 1 + 1 + 1 + 1, 0, none⟩) 2 2] 26 (0, 0))) := alls_at (i := 7) rfl
      have HWO : Hid ((alls wr [.cells #[] 5, .cells #[.int .u8 1] 5, .cells #[.int .u8 1, .int .u8 20] 5, .cells #[.int .u8 1, .int .u8 1, .int .u8 1, .int .u8 1, .int .u8 1, .int .u8 1, .int .u8 1, .int .u8 1, .int .u8 1, .int .u8 2] 5, .cells #[.int .u8 0, .int .u8 0] 5, .cells #[.int .u8 0, .int .u8 0, .int .u8 0] 5, .cells #[.int .u8 17, .int .u8 1] 5, .cells #[.slice (some ⟨wr.heap.size, 0, none⟩) 0 0, .slice (some ⟨wr.heap.size + 1, 0, none⟩) 1 1, .slice (some ⟨wr.heap.size + 1 + 1, 0, none⟩) 2 2, .slice (some ⟨wr.heap.size + 1 + 1 + 1, 0, none⟩) 10 10, .slice (some ⟨wr.heap.size + 1 + 1 + 1 + 1, 0, none⟩) 2 2, .slice (some ⟨wr.heap.size + 1 + 1 + 1 + 1 + 1, 0, none⟩) 3 3, .slice (some ⟨wr.heap.size + 1 + 1 + 1 + 1 + 1 + 1, 0, none⟩) 2 2] 26, .cells #[.int .i64 4, .int .i64 4, .int .i64 3, .int .i64 3, .int .i64 0, .int .i64 5, .int .i64 3] 30]).heap[wr.heap.size + 1 + 1 + 1 + 1 + 1 + 1 + 1 + 1]? = some (.cells #[.int .i64 4, .int .i64 4, .int .i64 3, .int .i64 3, .int .i64 0, .int .i64 5, .int .i64 3] 30 (0, 0))) := alls_at (i := 8) rfl
      generalize alls wr [.cells #[] 5, .cells #[.int .u8 1] 5, .cells #[.int .u8 1, .int .u8 20] 5, .cells #[.int .u8 1, .int .u8 1, .int .u8 1, .int .u8 1, .int .u8 1, .int .u8 1, .int .u8 1, .int .u8 1, .int .u8 1, .int .u8 2] 5, .cells #[.int .u8 0, .int .u8 0] 5, .cells #[.int .u8 0, .int .u8 0, .int .u8 0] 5, .cells #[.int .u8 17, .int .u8 1] 5, .cells #[.slice (some ⟨wr.heap.size, 0, none⟩) 0 0, .slice (some ⟨wr.heap.size + 1, 0, none⟩) 1 1, .slice (some ⟨wr.heap.size + 1 + 1, 0, none⟩) 2 2, .slice (some ⟨wr.heap.size + 1 + 1 + 1, 0, none⟩) 10 10, .slice (some ⟨wr.heap.size + 1 + 1 + 1 + 1, 0, none⟩) 2 2, .slice (some ⟨wr.heap.size + 1 + 1 + 1 + 1 + 1, 0, none⟩) 3 3, .slice (some ⟨wr.heap.size + 1 + 1 + 1 + 1 + 1 + 1, 0, none⟩) 2 2] 26, .cells #[.int .i64 4, .int .i64 4, .int .i64 3, .int .i64 3, .int .i64 0, .int .i64 5, .int .i64 3] 30] = wa at HKA HB HRO HWO ⊢
      generalize wr.heap.size + 1 + 1 + 1 + 1 + 1 + 1 + 1 + 1 = gw at HWO ⊢
      generalize wr.heap.size + 1 + 1 + 1 + 1 + 1 + 1 + 1 = gr at HRO ⊢
      have HROW : Hid (∀ W, Kp 0 0 wa W → ∀ k, k < 7 → W.cell? ⟨gr, k, none⟩ = some (.slice (some ⟨wr.heap.size + k, 0, none⟩) (Dl.bs.getD k []).length (Dl.bs.getD k []).length) ∧ W.cell? ⟨gw, k, none⟩ = some (.int .i64 (Dl.want.getD k 0))) := fun W hW k hk => by
        have h1 := hW.heap HRO.out (.inr (Nat.zero_le _))
        have h2 := hW.heap HWO.out (.inr (Nat.zero_le _))
        have : k = 0 ∨ k = 1 ∨ k = 2 ∨ k = 3 ∨ k = 4 ∨ k = 5 ∨ k = 6 := by omega
        rcases this with rfl | rfl | rfl | rfl | rfl | rfl | rfl <;> exact ⟨blk_cell h1 rfl, blk_cell h2 rfl⟩
      have HK2 := Lib.hid (HKP.out.trans HKA.out)
      have HGT : Hid (∀ W, Kp 0 0 wa W → ∀ k, k < 7 → Calls Try.prog 14 #[.slice (some ⟨wr.heap.size + k, 0, none⟩) (Dl.bs.getD k []).length (Dl.bs.getD k []).length] W fun r w' => (∃ to n1 tc po n2 pc, r = .returned (.tuple #[.agg #[.slice to n1 tc, .slice po n2 pc], .int .i64 (Dl.want.getD k 0)])) ∧ Kp 0 0 W w') := fun W hW k hk => by
        have hb := Dl.bs_bytes k hk
        have hr := (lit_at (HB.out k hk) (by unfold maxLen; omega)).keep0 hW
        have h := HGE _ _ _ W _ hr hb.1 (by omega) (HPW.out _ (HK2.out.trans hW))
        rw [Dl.wants k hk] at h
        refine h.mono ?_
        rintro r w' ⟨tv, pv, rfl, hrd, hk⟩
        obtain ⟨to, tc, rfl, _, _, _⟩ := hrd.t.open
        obtain ⟨po, pc, rfl, _, _, _⟩ := hrd.p.open
        exact ⟨⟨_, _, _, _, _, _, rfl⟩, hk⟩
      clear HB HRO HWO hlt k1 hk
      generalize wr.heap.size = g0 at HROW HGT ⊢
      go_wp2_with fail
      go_loopw [4, 5, 6] (fun i _ _ wx => ∃ n : Nat, n ≤ 7 ∧ i = .int .i64 n ∧ Kp 0 0 wa wx) (fun i _ _ _ => 7 - (intOf i).toNat)
      case atStart => exact ⟨0, Nat.zero_le _, rfl, Kp.refl _ _ _⟩
      case round =>
        obtain ⟨n, hn, rfl, hkx⟩ := hrel
        have HKX := Lib.hid hkx
        clear hkx
        by_cases hlt : n < 7
        · have n0 : (0 : Int) ≤ (n : Int) := Int.natCast_nonneg _
          have n1 : (n : Int) < 7 := by omega
          obtain ⟨c1, _⟩ := HROW.out wr HKX.out n hlt
          have HG2 := Lib.hid (HGT.out wr HKX.out n hlt)
          generalize (Dl.bs.getD n []).length = L at c1 HG2
          go_wp2_with fail
          refine HG2.out.mono ?_
          rintro r w4 ⟨⟨to, m1, tc, po, m2, pc, rfl⟩, hk4⟩
          have hka := hk4.alloc (.cells #[.slice to m1 tc, .slice po m2 pc] 25)
          have HK4 := Lib.hid (HKX.out.trans hka)
          obtain ⟨_, c2⟩ := HROW.out _ HK4.out n hlt
          clear hk4 hka c1 HG2
          have hne : (Dl.want.getD n 0 != Dl.want.getD n 0) = false := by simp
          go_wp2_with fail
          go_roundw
          case rel => exact ⟨n + 1, by omega, by go_num, HK4.out⟩
          case measure => simp [intOf]; omega
        · have n1 : ¬ (n : Int) < 7 := by omega
          have HKD := Lib.hid (knownD_any HP HPU HGE wr (HPW.out _ (HK2.out.trans HKX.out)))
          go_wp2_with fail
          refine HKD.out.mono ?_
          rintro r w5 ⟨rfl, hk5⟩
          go_wp2_with fail
          go_returns
          exact ⟨rfl, HK2.out.trans (HKX.out.trans hk5)⟩

end Go.Proofs.Ytgokhagbknlfaaa
