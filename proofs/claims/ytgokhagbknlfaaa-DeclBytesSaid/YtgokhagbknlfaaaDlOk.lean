/-
  The landed Put and Get keep the document.
-/
import Derived.Test.YtgokhagbknlfaaaDp
import Derived.Test.YtgokhagbknlfaaaDg
namespace Go.Proofs.Ytgokhagbknlfaaa
open Go.RowKit
set_option maxRecDepth 100000

set_option maxRecDepth 100000 in
set_option maxHeartbeats 4000000 in
theorem dputOk : DPutOk (fun _ => True) := by
  intro S d w tv pv hd hf _ _ _ _
  obtain ⟨to, tc, rfl, _, _, _⟩ := hd.t.open
  obtain ⟨po, pc, rfl, _, _, _⟩ := hd.p.open
  have hka : Kp 0 0 w (w.alloc (.cells #[.slice to d.ts.length tc, .slice po d.ps.length pc] 25)) := (Kp.refl _ _ _).alloc _
  have HQ := Lib.hid (blk_one w (.cells #[.slice to d.ts.length tc, .slice po d.ps.length pc] 25))
  have HT : Hid (RdS tyE 1 w (fun b => b < w.heap.size) (.slice to d.ts.length tc) d.ts) := hd.t.wide tyE_good (by decide) (fun b h _ => h)
  have HP : Hid (RdS pjE 5 w (fun b => b < w.heap.size) (.slice po d.ps.length pc) d.ps) := hd.p.wide pjE_good (by decide) (fun b h _ => h)
  have HMA := Lib.hid (tooMany_any d _ _ _ (hd.keep0 hka))
  have HK := Lib.hid hka
  have HPT : Hid (Dl.put d = if Dl.many d = true then ([], 3) else (Ev.encs (Dl.nums d), 0)) := rfl
  have HOK : Hid (Dl.many d = false → Dl.OkD d) := fun h => Dl.ok_of hf h
  clear hka hd hf
  go_enter Try.func10, Try.ntmps10
  go_upto_region 1 with fail
  generalize w.alloc (.cells #[.slice to d.ts.length tc, .slice po d.ps.length pc] 25) = wq at HQ HK HMA ⊢
  generalize hq : w.heap.size = q at HQ HT HP ⊢
  have HW : Hid (w.heap.size = q) := hq
  clear hq
  have g0 := blk_cell HQ.out (k := 0) (u := .slice to d.ts.length tc) rfl
  have g1 := blk_cell HQ.out (k := 1) (u := .slice po d.ps.length pc) rfl
  go_wp2_with fail
  refine HMA.out.mono ?_
  rintro r w2 ⟨rfl, hk⟩
  have HK2 := Lib.hid (HK.out.trans hk)
  have HQ2 := Lib.hid (hk.heap HQ.out (.inr (Nat.zero_le _)))
  clear hk HMA g0 g1 HQ
  have g0 := blk_cell HQ2.out (k := 0) (u := .slice to d.ts.length tc) rfl
  have g1 := blk_cell HQ2.out (k := 1) (u := .slice po d.ps.length pc) rfl
  cases hma : Dl.many d with
  | true =>
    rw [hma, if_pos rfl] at HPT
    clear hma
    go_wp2_with fail
    go_returns
    rw [HPT.out]
    exact ⟨_, rfl, OwnI.nil _ _ _ _ _, HK2.out⟩
  | false =>
    rw [hma, if_neg (by decide)] at HPT
    have hok := HOK.out hma
    have hI := i64s_dnums hok
    have hlen := (Ev.encs_len hI).2
    have hnl := dnums_len hok
    have HEN : Hid (Ev.encs (Dl.nums d) = Ev.encs ((d.ts.length : Int) :: d.ts.flatMap Dl.enT) ++ Ev.encs ((d.ps.length : Int) :: d.ps.flatMap Dl.enP)) := Ev.encs_append _ _
    have hle := congrArg List.length HEN.out
    rw [List.length_append] at hle
    have hsz2 := HK2.out.size
    have HLT := Lib.hid (putListT_any (q + 1) (.slice none 0 0) [] d.ts w2 to ((HT.out.keep0 tyE_good HK2.out).wide tyE_good (by decide) (T := fun b => b < q + 1) (fun b _ (h : b < q) => by show b < q + 1; omega)) (fun b h => h) (OwB.nil _ _) (by have := heap_lt HQ2.out; omega) ⟨hI _ (by simp [Dl.nums]), fun x hx y hy => hI y (List.mem_append.2 (.inl (List.mem_cons_of_mem _ (List.mem_flatMap.2 ⟨x, hx, hy⟩))))⟩ (by rw [List.nil_append]; omega))
    have HLP := Lib.hid (fun (v : Value) (W : World) (ho : OwB (q + 1) W v (Ev.encs ((d.ts.length : Int) :: d.ts.flatMap Dl.enT))) (ha : Ad (q + 1) w2 W) => putListP_any (q + 1) v (Ev.encs ((d.ts.length : Int) :: d.ts.flatMap Dl.enT)) d.ps W po (((HP.out.keep0 pjE_good HK2.out).wide pjE_good (by decide) (T := fun b => b < q + 1) (fun b _ (h : b < q) => by show b < q + 1; omega)).keep pjE_good ha.kp (fun b hb => .inl hb)) (fun b h => h) ho (by have := heap_lt HQ2.out; have := ha.size; omega) ⟨hI _ (by simp [Dl.nums]), fun x hx y hy => hI y (List.mem_append.2 (.inr (List.mem_cons_of_mem _ (List.mem_flatMap.2 ⟨x, hx, hy⟩))))⟩ (by rw [List.length_append]; omega))
    clear hma hok HOK hI hlen hnl hle hsz2 HT HP
    go_upto_region 3 with fail
    go_wp2_with fail
    refine HLT.out.mono ?_
    rintro r w3 ⟨v3, rfl, ho, ha⟩
    have HO3 := Lib.hid ho
    have HA3 := Lib.hid ha
    have HQ3 := Lib.hid (ha.kp.heap HQ2.out (.inl (by omega)))
    rw [List.nil_append] at HO3
    clear ho ha g0 g1 HLT
    have g0 := blk_cell HQ3.out (k := 0) (u := .slice to d.ts.length tc) rfl
    have g1 := blk_cell HQ3.out (k := 1) (u := .slice po d.ps.length pc) rfl
    go_wp2_with fail
    refine (HLP.out _ _ HO3.out HA3.out).mono ?_
    rintro r w4 ⟨v4, rfl, ho, ha⟩
    have HO4 := Lib.hid ho
    have HA4 := Lib.hid (HA3.out.trans ha)
    clear ho ha g0 g1 HLP
    go_wp2_with fail
    go_returns
    rw [HPT.out, HEN.out]
    refine ⟨_, rfl, (OwnI.of_row HO4.out).wide (by have := HW.out; omega) (Nat.le_refl _), HK2.out.step HA4.out.kp (fun j h1 h2 => .inl (by have := HW.out; omega))⟩

end Go.Proofs.Ytgokhagbknlfaaa
