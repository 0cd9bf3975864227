/-
  What the landed Put lays, piece by piece; what tooMany tells.
-/
import Derived.Test.YtgokhagbknlfaaaDlSpec
import Derived.Test.YtgokhagbknlfaaaCodeI
import Derived.Test.YtgokhagbknlfaaaDlRef3
import Derived.Deep.RegionHeld3
namespace Go.Proofs.Ytgokhagbknlfaaa
open Go.RowKit
set_option maxRecDepth 100000

/-- A row of bytes that the calls own, in a block from base on. -/
def OwB (base : Nat) (w : World) (v : Value) (B : List Int) : Prop := w.ownsRow base 5 1 v B.length (B.map (.int .u8))

/-- A step that turns blocks of bytes alone, from base on. -/
structure Ad (base : Nat) (w w' : World) : Prop where
  kp : Kp base w.heap.size w w'
  tag : Ktag 5 w w'

theorem Ad.refl (base : Nat) (w : World) : Ad base w w := ⟨Kp.refl _ _ _, Ktag.of_kp (Kp.refl 0 0 w)⟩
theorem Ad.of0 {base : Nat} {w w' : World} (h : Kp 0 0 w w') : Ad base w w' := ⟨h.any, Ktag.of_kp h⟩
theorem Ad.trans {base : Nat} {a b c : World} (h : Ad base a b) (k : Ad base b c) : Ad base a c :=
  ⟨h.kp.step k.kp fun j h1 _ => by
    by_cases hj : j < a.heap.size
    · exact .inr ⟨h1, hj⟩
    · exact .inl (by omega), h.tag.trans k.tag⟩
theorem Ad.size {base : Nat} {w w' : World} (h : Ad base w w') : w.heap.size ≤ w'.heap.size := h.kp.size
theorem OwB.keep0 {base : Nat} {w w' : World} {v : Value} {B : List Int} (h : OwB base w v B) (hk : Kp 0 0 w w') : OwB base w' v B := ((OwnI.of_row h).keep0 hk).1
theorem OwB.nil (base : Nat) (w : World) : OwB base w (.slice none 0 0) [] := World.ownsRow_nil _ _ _ _

theorem tag_ui : (3 : TypeId) ≠ 5 := by decide
theorem tag_uf : (45 : TypeId) ≠ 5 := by decide

theorem Dl.take_encs {l : List Int} {k : Nat} (h : k < l.length) : Ev.encs (l.take (k + 1)) = Ev.encs (l.take k) ++ Pk.enc (l.getD k 0) := by
  rw [take_snoc_int h, Ev.encs_snoc]
theorem Dl.pre_len (l : List Int) (k : Nat) : (Ev.encs (l.take k)).length ≤ (Ev.encs l).length := by
  have h : Ev.encs l = Ev.encs (l.take k) ++ Ev.encs (l.drop k) := by rw [← Ev.encs_append, List.take_append_drop]
  rw [h, List.length_append]
  omega

set_option maxRecDepth 100000 in
set_option maxHeartbeats 4000000 in
theorem putNumbers_any (base g : Nat) (v : Value) (B ns : List Int) (w : World) (hown : OwB base w v B) (hg : w.heap[g]? = some (.cells (ns.map (.int .i64)).toArray 3 (0, 0))) (hb : base ≤ w.heap.size) (hI : Ev.I64s ns) (hl : (B ++ Ev.encs ns).length ≤ 1000000) :
    Calls Try.prog 40 #[v, .slice (some ⟨g, 0, none⟩) ns.length ns.length] w fun r w' => ∃ v', r = .returned v' ∧ OwB base w' v' (B ++ Ev.encs ns) ∧ Ad base w w' := by
  have HO := Lib.hid hown
  have HG := Lib.hid hg
  have HI := Lib.hid hI
  have HZ : Hid (B ++ Ev.encs (ns.take 0) = B) := by show _ = _; simp [Ev.encs_nil]
  have HL := Lib.hid (fun k => Dl.pre_len ns k)
  have hn : ns.length ≤ 1000000 := by
    have := (Ev.encs_len hI).1
    rw [List.length_append] at hl
    omega
  have HBL := Lib.hid hl
  have HB := Lib.hid hb
  clear hown hg hI hl hb
  go_enter Try.func40, Try.ntmps40
  go_wp2_with fail
  go_loopw [0, 6, 9] (fun v' _ i wr => ∃ k : Nat, k ≤ ns.length ∧ i = .int .i64 k ∧ OwB base wr v' (B ++ Ev.encs (ns.take k)) ∧ Ad base w wr) (fun _ _ i _ => ns.length - (intOf i).toNat)
  case atStart => exact ⟨0, Nat.zero_le _, rfl, by rw [HZ.out]; exact HO.out, Ad.refl _ _⟩
  case round =>
    obtain ⟨k, hk, rfl, hown, hkp⟩ := hrel
    have HOK := Lib.hid hown
    have HKK := Lib.hid hkp
    clear hown hkp
    by_cases hlt : k < ns.length
    · have hgk := HKK.out.tag g _ _ HG.out tag_ui
      have c1 := blk_cell hgk (k := k) (u := .int .i64 (ns.getD k 0)) (by simp [List.getD, hlt])
      have hx := HI.out (ns.getD k 0) (by simp [List.getD, hlt])
      have HST := Lib.hid (Dl.take_encs (l := ns) hlt)
      have hle1 := HL.out (k + 1)
      have hbl := HBL.out
      rw [List.length_append] at hbl
      rw [HST.out] at hle1
      have k0 : (0 : Int) ≤ (k : Int) := Int.natCast_nonneg _
      have k1 : (k : Int) < (ns.length : Int) := by omega
      clear hgk
      generalize ns.getD k 0 = x at c1 hx HST hle1
      rw [List.length_append] at hle1
      go_wp2_with fail
      refine (int_any (lo := 0) (hi := 0) _ [] x wr (RdI.nil _ _ _ _) (by simp) hx.1 hx.2).mono ?_
      rintro r w4 ⟨ev, rfl, hown4, hk4⟩
      have HO4 := Lib.hid hown4
      have HK4 := Lib.hid (HKK.out.trans (Ad.of0 hk4))
      have HOK4 := Lib.hid (HOK.out.keep0 hk4)
      have hsz4 := HK4.out.size
      clear hown4 hk4
      have hln : (B ++ Ev.encs (ns.take k)).length = B.length + (Ev.encs (ns.take k)).length := List.length_append
      have hbs := HB.out
      go_wp2_with (at_builtin; refine wpList_app rfl _ _ 26 rfl base 5 .u8 1 Try.underlying26 info_u8 _ (B ++ Ev.encs (ns.take k)).length ((B ++ Ev.encs (ns.take k)).map (.int .u8)) rfl HOK4.out _ rfl (Pk.enc x) HO4.out.rd ?c3 ?c4 ?c5 ?_)
      case c3 => unfold maxLen; omega
      case c4 => omega
      case c5 => omega
      intro v5 w5 hown5 hg5
      have HK5 : Hid (Ad base w w5) := HK4.out.trans ⟨(Kp.refl base w4.heap.size w4).grown hg5 (fun j hj => .inr (HOK4.out.lt j hj)), Ktag.of_grown hg5 (ownsRow_tag HOK4.out)⟩
      have HO5 := Lib.hid hown5
      clear hown5 hg5
      go_wp2_with fail
      go_roundw
      case rel =>
        refine ⟨k + 1, by omega, by go_num, ?_, HK5.out⟩
        have ho := HO5.out
        unfold OwB
        rw [HST.out]
        simp only [List.length_append, List.map_append, Nat.add_assoc] at ho ⊢
        exact ho
      case measure => simp [intOf]; omega
    · obtain rfl : k = ns.length := by omega
      have HT : Hid (ns.take ns.length = ns) := List.take_length
      go_wp2_with fail
      go_returns
      have ho := HOK.out
      rw [HT.out] at ho
      exact ⟨_, rfl, ho, HKK.out⟩

set_option maxRecDepth 100000 in
set_option maxHeartbeats 4000000 in
theorem putMove_any (base : Nat) (v : Value) (B : List Int) (m : Mv) (w : World) (hown : OwB base w v B) (hb : base ≤ w.heap.size) (hI : Ev.I64s (Dl.enM m)) (hl : (B ++ Ev.encs (Dl.enM m)).length ≤ 1000000) :
    Calls Try.prog 57 #[v, .agg #[.int .i64 m.f, .int .i64 m.t, .int .i64 m.n, .int .i64 m.l]] w fun r w' => ∃ v', r = .returned v' ∧ OwB base w' v' (B ++ Ev.encs (Dl.enM m)) ∧ Ad base w w' := by
  have hk : Kp 0 0 w ((w.alloc (.cells #[.int .i64 m.f, .int .i64 m.t, .int .i64 m.n, .int .i64 m.l] 73)).alloc (.cells #[.int .i64 m.f, .int .i64 m.t, .int .i64 m.n, .int .i64 m.l] 3)) := ((Kp.refl _ _ _).alloc _).alloc _
  have HB := Lib.hid (blk_one w (.cells #[.int .i64 m.f, .int .i64 m.t, .int .i64 m.n, .int .i64 m.l] 73))
  have HNU := Lib.hid (putNumbers_any base (w.heap.size + 1) v B (Dl.enM m) _ (hown.keep0 hk) (blk_two w (.cells #[.int .i64 m.f, .int .i64 m.t, .int .i64 m.n, .int .i64 m.l] 73) (.cells #[.int .i64 m.f, .int .i64 m.t, .int .i64 m.n, .int .i64 m.l] 3)) (Nat.le_trans hb hk.size) hI hl)
  have HA := Lib.hid (Ad.of0 (base := base) hk)
  clear hk hown hb hI hl
  go_enter Try.func57, Try.ntmps57
  go_wp2_with fail
  refine HNU.out.mono ?_
  rintro r w2 ⟨v', rfl, ho, ha⟩
  have HO2 := Lib.hid ho
  have HA2 := Lib.hid (HA.out.trans ha)
  clear ho ha HNU HA HB
  go_wp2_with fail
  go_returns
  exact ⟨_, rfl, HO2.out, HA2.out⟩

set_option maxRecDepth 100000 in
set_option maxHeartbeats 4000000 in
theorem putProj_any (base : Nat) (v : Value) (B : List Int) (m : Pj) (w : World) (hown : OwB base w v B) (hb : base ≤ w.heap.size) (hI : Ev.I64s (Dl.enP m)) (hl : (B ++ Ev.encs (Dl.enP m)).length ≤ 1000000) :
    Calls Try.prog 22 #[v, .agg #[.int .i64 m.t, .int .i64 m.f, .int .i64 m.g, .int .i64 m.b, .int .i64 m.m]] w fun r w' => ∃ v', r = .returned v' ∧ OwB base w' v' (B ++ Ev.encs (Dl.enP m)) ∧ Ad base w w' := by
  have hk : Kp 0 0 w ((w.alloc (.cells #[.int .i64 m.t, .int .i64 m.f, .int .i64 m.g, .int .i64 m.b, .int .i64 m.m] 51)).alloc (.cells #[.int .i64 m.t, .int .i64 m.f, .int .i64 m.g, .int .i64 m.b, .int .i64 m.m] 3)) := ((Kp.refl _ _ _).alloc _).alloc _
  have HB := Lib.hid (blk_one w (.cells #[.int .i64 m.t, .int .i64 m.f, .int .i64 m.g, .int .i64 m.b, .int .i64 m.m] 51))
  have HNU := Lib.hid (putNumbers_any base (w.heap.size + 1) v B (Dl.enP m) _ (hown.keep0 hk) (blk_two w (.cells #[.int .i64 m.t, .int .i64 m.f, .int .i64 m.g, .int .i64 m.b, .int .i64 m.m] 51) (.cells #[.int .i64 m.t, .int .i64 m.f, .int .i64 m.g, .int .i64 m.b, .int .i64 m.m] 3)) (Nat.le_trans hb hk.size) hI hl)
  have HA := Lib.hid (Ad.of0 (base := base) hk)
  clear hk hown hb hI hl
  go_enter Try.func22, Try.ntmps22
  go_wp2_with fail
  refine HNU.out.mono ?_
  rintro r w2 ⟨v', rfl, ho, ha⟩
  have HO2 := Lib.hid ho
  have HA2 := Lib.hid (HA.out.trans ha)
  clear ho ha HNU HA HB
  go_wp2_with fail
  go_returns
  exact ⟨_, rfl, HO2.out, HA2.out⟩

theorem Dl.list_len {α : Type} {en : α → List Int} {B : List Int} {l : List α} {k : Nat} {x : α} (h : l[k]? = some x) (hl : (B ++ Ev.encs ((l.length : Int) :: l.flatMap en)).length ≤ 1000000) : ((B ++ Ev.encs ((l.length : Int) :: (l.take k).flatMap en)) ++ Ev.encs (en x)).length ≤ 1000000 := by
  have hlt := (List.getElem?_eq_some_iff.1 h).1
  have e1 : l.flatMap en = ((l.take k).flatMap en ++ en x) ++ (l.drop (k + 1)).flatMap en := by
    rw [← Dl.flat_snoc en h, ← List.flatMap_append, List.take_append_drop]
  rw [e1] at hl
  simp only [Ev.encs_cons, Ev.encs_append, List.length_append] at hl ⊢
  omega

theorem Dl.list_next {α : Type} {en : α → List Int} {B : List Int} {l : List α} {k : Nat} {x : α} (h : l[k]? = some x) : B ++ Ev.encs ((l.length : Int) :: (l.take (k + 1)).flatMap en) = (B ++ Ev.encs ((l.length : Int) :: (l.take k).flatMap en)) ++ Ev.encs (en x) := by
  rw [Dl.flat_snoc en h, ← List.cons_append, Ev.encs_append, List.append_assoc]

set_option maxRecDepth 100000 in
set_option maxHeartbeats 4000000 in
theorem putListM_any {S : Nat → Prop} {c : Nat} (base : Nat) (v : Value) (B : List Int) (l : List Mv) (w : World) (ao : Option Addr) (hr : RdS mvE 4 w S (.slice ao l.length c) l) (hS : ∀ b, S b → b < base) (hown : OwB base w v B) (hb : base ≤ w.heap.size) (hI : Ev.I64 (l.length : Int) ∧ ∀ x ∈ l, Ev.I64s (Dl.enM x)) (hl : (B ++ Ev.encs ((l.length : Int) :: l.flatMap Dl.enM)).length ≤ 1000000) :
    Calls Try.prog 56 #[v, .slice ao l.length c, .func (.func 57) #[] #[]] w fun r w' => ∃ v', r = .returned v' ∧ OwB base w' v' (B ++ Ev.encs ((l.length : Int) :: l.flatMap Dl.enM)) ∧ Ad base w w' := by
  obtain ⟨_, _, he, _, hl2, _⟩ := hr.open
  have hl2 : l.length ≤ 9223372036854775807 := by omega
  have HCL := Lib.hid hr.cl
  have HS := Lib.hid hS
  have hk : Kp 0 0 w (w.alloc (.cells #[.int .i64 (l.length : Int)] 3)) := (Kp.refl _ _ _).alloc _
  have HNU := Lib.hid (putNumbers_any base w.heap.size v B [(l.length : Int)] _ (hown.keep0 hk) (blk_one w (.cells #[.int .i64 (l.length : Int)] 3)) (Nat.le_trans hb hk.size) (fun x hx => by rw [List.mem_singleton] at hx; rw [hx]; exact hI.1) (by
    rw [Ev.encs_cons] at hl
    simp only [Ev.encs_cons, Ev.encs_nil, List.append_nil, List.length_append] at hl ⊢
    omega))
  have HA := Lib.hid (Ad.of0 (base := base) hk)
  have HX : Hid (∀ k x, l[k]? = some x → ((B ++ Ev.encs ((l.length : Int) :: (l.take k).flatMap Dl.enM)) ++ Ev.encs (Dl.enM x)).length ≤ 1000000) := fun k x h => Dl.list_len h hl
  have HN : Hid (∀ k x, l[k]? = some x → B ++ Ev.encs ((l.length : Int) :: (l.take (k + 1)).flatMap Dl.enM) = (B ++ Ev.encs ((l.length : Int) :: (l.take k).flatMap Dl.enM)) ++ Ev.encs (Dl.enM x)) := fun k x h => Dl.list_next h
  have HZ : Hid (B ++ Ev.encs ((l.length : Int) :: (l.take 0).flatMap Dl.enM) = B ++ Ev.encs [(l.length : Int)]) := rfl
  have HI := Lib.hid hI.2
  have HB := Lib.hid hb
  have HPM := Lib.hid (fun (v : Value) (B : List Int) (x : Mv) (w : World) => putMove_any base v B x w)
  clear hk hown hb hI hl hr he hS
  go_enter Try.func56, Try.ntmps56
  go_wp2_with fail
  refine HNU.out.mono ?_
  rintro r w2 ⟨v1, rfl, ho, ha⟩
  have HO1 := Lib.hid ho
  have HA1 := Lib.hid (HA.out.trans ha)
  clear ho ha HNU HA
  go_wp2_with fail
  go_loopw [0, 8, 16] (fun v' _ i wr => ∃ k : Nat, k ≤ l.length ∧ i = .int .i64 k ∧ OwB base wr v' (B ++ Ev.encs ((l.length : Int) :: (l.take k).flatMap Dl.enM)) ∧ Ad base w wr) (fun _ _ i _ => l.length - (intOf i).toNat)
  case atStart => exact ⟨0, Nat.zero_le _, rfl, by rw [HZ.out]; exact HO1.out, HA1.out⟩
  case round =>
    obtain ⟨k, hk, rfl, hown, hkp⟩ := hrel
    have HOK := Lib.hid hown
    have HKK := Lib.hid hkp
    clear hown hkp
    by_cases hlt : k < l.length
    · obtain ⟨m, hm⟩ : ∃ m, l[k]? = some m := ⟨_, List.getElem?_eq_getElem hlt⟩
      have HNX := Lib.hid (HN.out k m hm)
      have HXX := Lib.hid (HX.out k m hm)
      have HIM := Lib.hid (HI.out m (List.mem_of_getElem? hm))
      obtain ⟨b1, o1, rfl, hb1, c0, c1, c2, c3⟩ := mv_at HCL.out hm
      have hb1 := HS.out _ hb1
      have c0 := HKK.out.kp.cell c0 (.inl hb1)
      have c1 := HKK.out.kp.cell c1 (.inl hb1)
      have c2 := HKK.out.kp.cell c2 (.inl hb1)
      have c3 := HKK.out.kp.cell c3 (.inl hb1)
      have k0 : (0 : Int) ≤ (k : Int) := Int.natCast_nonneg _
      have k1 : (k : Int) < (l.length : Int) := by omega
      generalize B ++ Ev.encs ((l.length : Int) :: (l.take k).flatMap Dl.enM) = Bk at HOK HNX HXX
      clear hm hb1
      have hka : Kp 0 0 wr (wr.alloc (.cells #[.int .i64 m.f, .int .i64 m.t, .int .i64 m.n, .int .i64 m.l] 73)) := (Kp.refl _ _ _).alloc _
      have HOA := Lib.hid (HOK.out.keep0 hka)
      have HAA := Lib.hid (HKK.out.trans (Ad.of0 hka))
      have HQ := Lib.hid (blk_one wr (.cells #[.int .i64 m.f, .int .i64 m.t, .int .i64 m.n, .int .i64 m.l] 73))
      clear hka
      go_upto_region 5 with fail
      generalize wr.alloc (.cells #[.int .i64 m.f, .int .i64 m.t, .int .i64 m.n, .int .i64 m.l] 73) = wa at HOA HAA HQ ⊢
      generalize wr.heap.size = q at HQ ⊢
      clear c0 c1 c2 c3
      have d0 := blk_cell HQ.out (k := 0) (u := .int .i64 m.f) rfl
      have d1 := blk_cell HQ.out (k := 1) (u := .int .i64 m.t) rfl
      have d2 := blk_cell HQ.out (k := 2) (u := .int .i64 m.n) rfl
      have d3 := blk_cell HQ.out (k := 3) (u := .int .i64 m.l) rfl
      go_wp2_with fail
      refine (HPM.out _ _ m _ HOA.out (Nat.le_trans HB.out HAA.out.size) HIM.out HXX.out).mono ?_
      rintro r wz ⟨vz, rfl, ho, ha⟩
      have HOZ := Lib.hid ho
      have HAZ := Lib.hid (HAA.out.trans ha)
      clear ho ha
      go_wp2_with fail
      go_roundw
      case rel => exact ⟨k + 1, by omega, by go_num, by rw [HNX.out]; exact HOZ.out, HAZ.out⟩
      case measure => simp [intOf]; omega
    · obtain rfl : k = l.length := by omega
      have HT : Hid (l.take l.length = l) := List.take_length
      go_wp2_with fail
      go_returns
      have ho := HOK.out
      rw [HT.out] at ho
      exact ⟨_, rfl, ho, HKK.out⟩

set_option maxRecDepth 100000 in
set_option maxHeartbeats 4000000 in
theorem putField_any {S : Nat → Prop} (base : Nat) (v : Value) (B : List Int) (f : Fl) (w : World) (mv : Value) (hr : RdS mvE 4 w S mv f.ms) (hS : ∀ b, S b → b < base) (hown : OwB base w v B) (hb : base ≤ w.heap.size) (hI : Ev.I64s (Dl.enF f)) (hl : (B ++ Ev.encs (Dl.enF f)).length ≤ 1000000) :
    Calls Try.prog 42 #[v, fieldV f mv] w fun r w' => ∃ v', r = .returned v' ∧ OwB base w' v' (B ++ Ev.encs (Dl.enF f)) ∧ Ad base w w' := by
  unfold fieldV
  have HS := Lib.hid hS
  obtain ⟨mo, mc, rfl, _, _, _⟩ := hr.open
  have hk : Kp 0 0 w (w.alloc (.cells #[.int .i64 f.k, .int .i64 f.p, .bool f.b, .slice mo f.ms.length mc] 45)) := (Kp.refl _ _ _).alloc _
  have HQ := Lib.hid (blk_one w (.cells #[.int .i64 f.k, .int .i64 f.p, .bool f.b, .slice mo f.ms.length mc] 45))
  have HR := Lib.hid (hr.keep0 mvE_good hk)
  have HO := Lib.hid (hown.keep0 hk)
  have HA := Lib.hid (Ad.of0 (base := base) hk)
  have HB := Lib.hid (Nat.le_trans hb hk.size)
  clear hk hr hown hb hS
  go_enter Try.func42, Try.ntmps42
  go_upto_region 2 with fail
  generalize w.alloc (.cells #[.int .i64 f.k, .int .i64 f.p, .bool f.b, .slice mo f.ms.length mc] 45) = wq at HQ HR HO HA HB ⊢
  generalize w.heap.size = q at HQ ⊢
  cases hfb : f.b with
  | true =>
    have hen : Dl.enF f = [f.k, f.p, 1] ++ ((f.ms.length : Int) :: f.ms.flatMap Dl.enM) := by
      unfold Dl.enF Dl.enB
      rw [hfb]
      rfl
    have hka : Kp 0 0 wq (wq.alloc (.cells #[.int .i64 f.k, .int .i64 f.p, .int .i64 1] 3)).drew := ((Kp.refl _ _ _).alloc _).drew
    rw [hen] at hl hI
    have HEN := Lib.hid hen
    have HNU := Lib.hid (putNumbers_any base wq.heap.size v B [f.k, f.p, 1] (wq.alloc (.cells #[.int .i64 f.k, .int .i64 f.p, .int .i64 1] 3)).drew (HO.out.keep0 hka) (blk_one wq (.cells #[.int .i64 f.k, .int .i64 f.p, .int .i64 1] 3)) (Nat.le_trans HB.out hka.size) (fun x hx => hI x (List.mem_append.2 (.inl hx))) (by
      rw [Ev.encs_append] at hl
      simp only [List.length_append] at hl ⊢
      omega))
    have HAA := Lib.hid (Ad.of0 (base := base) hka)
    have hl' : ((B ++ Ev.encs [f.k, f.p, 1]) ++ Ev.encs ((f.ms.length : Int) :: f.ms.flatMap Dl.enM)).length ≤ 1000000 := by
      rw [Ev.encs_append] at hl
      rw [List.append_assoc]
      exact hl
    have HLM := Lib.hid (fun (v' : Value) (W : World) (hr : RdS mvE 4 W S (.slice mo f.ms.length mc) f.ms) (ho : OwB base W v' (B ++ Ev.encs [f.k, f.p, 1])) (hb : base ≤ W.heap.size) => putListM_any base v' (B ++ Ev.encs [f.k, f.p, 1]) f.ms W mo hr HS.out ho hb ⟨hI _ (by simp), fun x hx y hy => hI y (List.mem_append.2 (.inr (List.mem_cons_of_mem _ (List.mem_flatMap.2 ⟨x, hx, hy⟩))))⟩ hl')
    have HTG : Hid (∀ W, Ad base wq W → W.cell? ⟨q, 0, none⟩ = some (.int .i64 f.k) ∧ W.cell? ⟨q, 1, none⟩ = some (.int .i64 f.p) ∧ W.cell? ⟨q, 3, none⟩ = some (.slice mo f.ms.length mc)) := fun W h =>
      have h2 := h.tag q _ _ HQ.out tag_uf
      ⟨blk_cell h2 (k := 0) rfl, blk_cell h2 (k := 1) rfl, blk_cell h2 (k := 3) rfl⟩
    have HRK : Hid (∀ W, Ad base wq W → RdS mvE 4 W S (.slice mo f.ms.length mc) f.ms) := fun W h => HR.out.keep mvE_good h.kp (fun b hb => .inl (HS.out b hb))
    obtain ⟨g0, g1, g3⟩ := HTG.out wq (Ad.refl _ _)
    have g2 := blk_cell HQ.out (k := 2) (u := .bool f.b) rfl
    rw [hfb] at g2
    clear hl hl' hI hen hka
    go_upto_region 4 with fail
    clear g2
    go_region_held3 (fun W => W.cell? ⟨q, 0, none⟩ = some (.int .i64 f.k) ∧ W.cell? ⟨q, 1, none⟩ = some (.int .i64 f.p) ∧ W.cell? ⟨q, 3, none⟩ = some (.slice mo f.ms.length mc))
      (first
        | exact HTG.out _ (Ad.of0 (Kp.refl 0 0 wq).drew)
        | exact HTG.out _ HAA.out
        | exact HTG.out _ ha6
        | exact HTG.out _ ha7)
      ((first
        | (go_at_call 40
           refine HNU.out.mono ?_
           rintro r w6 ⟨v6, rfl, ho6, ha⟩
           have ha6 : Ad base wq w6 := HAA.out.trans ha
           clear ha)
        | (go_at_call 56
           refine (HLM.out _ _ (HRK.out _ ha6) ho6 (Nat.le_trans HB.out ha6.size)).mono ?_
           rintro r w7 ⟨v7, rfl, ho7, ha⟩
           have ha7 : Ad base wq w7 := ha6.trans ha
           clear ha)))
    all_goals
      have HO7 := Lib.hid ho7
      have HA7 := Lib.hid (HA.out.trans ha7)
      clear ho6 ha6 ho7 ha7 g0 g1 g3
      go_wp2_with fail
      go_returns
      exact ⟨_, rfl, by rw [HEN.out, Ev.encs_append, ← List.append_assoc]; exact HO7.out, HA7.out⟩
  | false =>
    have hen : Dl.enF f = [f.k, f.p, 0] ++ ((f.ms.length : Int) :: f.ms.flatMap Dl.enM) := by
      unfold Dl.enF Dl.enB
      rw [hfb]
      rfl
    have hka : Kp 0 0 wq (wq.alloc (.cells #[.int .i64 f.k, .int .i64 f.p, .int .i64 0] 3)).drew := ((Kp.refl _ _ _).alloc _).drew
    rw [hen] at hl hI
    have HEN := Lib.hid hen
    have HNU := Lib.hid (putNumbers_any base wq.heap.size v B [f.k, f.p, 0] (wq.alloc (.cells #[.int .i64 f.k, .int .i64 f.p, .int .i64 0] 3)).drew (HO.out.keep0 hka) (blk_one wq (.cells #[.int .i64 f.k, .int .i64 f.p, .int .i64 0] 3)) (Nat.le_trans HB.out hka.size) (fun x hx => hI x (List.mem_append.2 (.inl hx))) (by
      rw [Ev.encs_append] at hl
      simp only [List.length_append] at hl ⊢
      omega))
    have HAA := Lib.hid (Ad.of0 (base := base) hka)
    have hl' : ((B ++ Ev.encs [f.k, f.p, 0]) ++ Ev.encs ((f.ms.length : Int) :: f.ms.flatMap Dl.enM)).length ≤ 1000000 := by
      rw [Ev.encs_append] at hl
      rw [List.append_assoc]
      exact hl
    have HLM := Lib.hid (fun (v' : Value) (W : World) (hr : RdS mvE 4 W S (.slice mo f.ms.length mc) f.ms) (ho : OwB base W v' (B ++ Ev.encs [f.k, f.p, 0])) (hb : base ≤ W.heap.size) => putListM_any base v' (B ++ Ev.encs [f.k, f.p, 0]) f.ms W mo hr HS.out ho hb ⟨hI _ (by simp), fun x hx y hy => hI y (List.mem_append.2 (.inr (List.mem_cons_of_mem _ (List.mem_flatMap.2 ⟨x, hx, hy⟩))))⟩ hl')
    have HTG : Hid (∀ W, Ad base wq W → W.cell? ⟨q, 0, none⟩ = some (.int .i64 f.k) ∧ W.cell? ⟨q, 1, none⟩ = some (.int .i64 f.p) ∧ W.cell? ⟨q, 3, none⟩ = some (.slice mo f.ms.length mc)) := fun W h =>
      have h2 := h.tag q _ _ HQ.out tag_uf
      ⟨blk_cell h2 (k := 0) rfl, blk_cell h2 (k := 1) rfl, blk_cell h2 (k := 3) rfl⟩
    have HRK : Hid (∀ W, Ad base wq W → RdS mvE 4 W S (.slice mo f.ms.length mc) f.ms) := fun W h => HR.out.keep mvE_good h.kp (fun b hb => .inl (HS.out b hb))
    obtain ⟨g0, g1, g3⟩ := HTG.out wq (Ad.refl _ _)
    have g2 := blk_cell HQ.out (k := 2) (u := .bool f.b) rfl
    rw [hfb] at g2
    clear hl hl' hI hen hka
    go_upto_region 4 with fail
    clear g2
    go_region_held3 (fun W => W.cell? ⟨q, 0, none⟩ = some (.int .i64 f.k) ∧ W.cell? ⟨q, 1, none⟩ = some (.int .i64 f.p) ∧ W.cell? ⟨q, 3, none⟩ = some (.slice mo f.ms.length mc))
      (first
        | exact HTG.out _ (Ad.of0 (Kp.refl 0 0 wq).drew)
        | exact HTG.out _ HAA.out
        | exact HTG.out _ ha6
        | exact HTG.out _ ha7)
      ((first
        | (go_at_call 40
           refine HNU.out.mono ?_
           rintro r w6 ⟨v6, rfl, ho6, ha⟩
           have ha6 : Ad base wq w6 := HAA.out.trans ha
           clear ha)
        | (go_at_call 56
           refine (HLM.out _ _ (HRK.out _ ha6) ho6 (Nat.le_trans HB.out ha6.size)).mono ?_
           rintro r w7 ⟨v7, rfl, ho7, ha⟩
           have ha7 : Ad base wq w7 := ha6.trans ha
           clear ha)))
    all_goals
      have HO7 := Lib.hid ho7
      have HA7 := Lib.hid (HA.out.trans ha7)
      clear ho6 ha6 ho7 ha7 g0 g1 g3
      go_wp2_with fail
      go_returns
      exact ⟨_, rfl, by rw [HEN.out, Ev.encs_append, ← List.append_assoc]; exact HO7.out, HA7.out⟩

set_option maxRecDepth 100000 in
set_option maxHeartbeats 4000000 in
theorem putListF_any {S : Nat → Prop} {c : Nat} (base : Nat) (v : Value) (B : List Int) (l : List Fl) (w : World) (ao : Option Addr) (hr : RdS flE 4 w S (.slice ao l.length c) l) (hS : ∀ b, S b → b < base) (hown : OwB base w v B) (hb : base ≤ w.heap.size) (hI : Ev.I64 (l.length : Int) ∧ ∀ x ∈ l, Ev.I64s (Dl.enF x)) (hl : (B ++ Ev.encs ((l.length : Int) :: l.flatMap Dl.enF)).length ≤ 1000000) :
    Calls Try.prog 41 #[v, .slice ao l.length c, .func (.func 42) #[] #[]] w fun r w' => ∃ v', r = .returned v' ∧ OwB base w' v' (B ++ Ev.encs ((l.length : Int) :: l.flatMap Dl.enF)) ∧ Ad base w w' := by
  obtain ⟨_, _, he, _, hl2, _⟩ := hr.open
  have hl2 : l.length ≤ 9223372036854775807 := by omega
  have HCL := Lib.hid hr.cl
  have HS := Lib.hid hS
  have hk : Kp 0 0 w (w.alloc (.cells #[.int .i64 (l.length : Int)] 3)) := (Kp.refl _ _ _).alloc _
  have HNU := Lib.hid (putNumbers_any base w.heap.size v B [(l.length : Int)] _ (hown.keep0 hk) (blk_one w (.cells #[.int .i64 (l.length : Int)] 3)) (Nat.le_trans hb hk.size) (fun x hx => by rw [List.mem_singleton] at hx; rw [hx]; exact hI.1) (by
    rw [Ev.encs_cons] at hl
    simp only [Ev.encs_cons, Ev.encs_nil, List.append_nil, List.length_append] at hl ⊢
    omega))
  have HA := Lib.hid (Ad.of0 (base := base) hk)
  have HX : Hid (∀ k x, l[k]? = some x → ((B ++ Ev.encs ((l.length : Int) :: (l.take k).flatMap Dl.enF)) ++ Ev.encs (Dl.enF x)).length ≤ 1000000) := fun k x h => Dl.list_len h hl
  have HN : Hid (∀ k x, l[k]? = some x → B ++ Ev.encs ((l.length : Int) :: (l.take (k + 1)).flatMap Dl.enF) = (B ++ Ev.encs ((l.length : Int) :: (l.take k).flatMap Dl.enF)) ++ Ev.encs (Dl.enF x)) := fun k x h => Dl.list_next h
  have HZ : Hid (B ++ Ev.encs ((l.length : Int) :: (l.take 0).flatMap Dl.enF) = B ++ Ev.encs [(l.length : Int)]) := rfl
  have HI := Lib.hid hI.2
  have HB := Lib.hid hb
  have HPM := Lib.hid (fun (v : Value) (B : List Int) (x : Fl) (w : World) (mv : Value) (hr : RdS mvE 4 w S mv x.ms) => putField_any base v B x w mv hr)
  clear hk hown hb hI hl hr he hS
  go_enter Try.func41, Try.ntmps41
  go_wp2_with fail
  refine HNU.out.mono ?_
  rintro r w2 ⟨v1, rfl, ho, ha⟩
  have HO1 := Lib.hid ho
  have HA1 := Lib.hid (HA.out.trans ha)
  clear ho ha HNU HA
  go_wp2_with fail
  go_loopw [0, 8, 16] (fun v' _ i wr => ∃ k : Nat, k ≤ l.length ∧ i = .int .i64 k ∧ OwB base wr v' (B ++ Ev.encs ((l.length : Int) :: (l.take k).flatMap Dl.enF)) ∧ Ad base w wr) (fun _ _ i _ => l.length - (intOf i).toNat)
  case atStart => exact ⟨0, Nat.zero_le _, rfl, by rw [HZ.out]; exact HO1.out, HA1.out⟩
  case round =>
    obtain ⟨k, hk, rfl, hown, hkp⟩ := hrel
    have HOK := Lib.hid hown
    have HKK := Lib.hid hkp
    clear hown hkp
    by_cases hlt : k < l.length
    · obtain ⟨m, hm⟩ : ∃ m, l[k]? = some m := ⟨_, List.getElem?_eq_getElem hlt⟩
      have HNX := Lib.hid (HN.out k m hm)
      have HXX := Lib.hid (HX.out k m hm)
      have HIM := Lib.hid (HI.out m (List.mem_of_getElem? hm))
      obtain ⟨b1, o1, mo, mc, rfl, hb1, c0, c1, c2, c3, _, _, hms⟩ := fl_at HCL.out hm
      have hb1 := HS.out _ hb1
      have c0 := HKK.out.kp.cell c0 (.inl hb1)
      have c1 := HKK.out.kp.cell c1 (.inl hb1)
      have c2 := HKK.out.kp.cell c2 (.inl hb1)
      have c3 := HKK.out.kp.cell c3 (.inl hb1)
      have k0 : (0 : Int) ≤ (k : Int) := Int.natCast_nonneg _
      have k1 : (k : Int) < (l.length : Int) := by omega
      generalize B ++ Ev.encs ((l.length : Int) :: (l.take k).flatMap Dl.enF) = Bk at HOK HNX HXX
      clear hm hb1
      have hka : Kp 0 0 wr (wr.alloc (.cells #[.int .i64 m.k, .int .i64 m.p, .bool m.b, .slice mo m.ms.length mc] 45)) := (Kp.refl _ _ _).alloc _
      have HOA := Lib.hid (HOK.out.keep0 hka)
      have HAA := Lib.hid (HKK.out.trans (Ad.of0 hka))
      have HQ := Lib.hid (blk_one wr (.cells #[.int .i64 m.k, .int .i64 m.p, .bool m.b, .slice mo m.ms.length mc] 45))
      clear hka
      go_upto_region 5 with fail
      have HMS := Lib.hid (hms.keep mvE_good HAA.out.kp (fun b hb => .inl (HS.out b hb)))
      clear hms
      generalize wr.alloc (.cells #[.int .i64 m.k, .int .i64 m.p, .bool m.b, .slice mo m.ms.length mc] 45) = wa at HOA HAA HQ HMS ⊢
      generalize wr.heap.size = q at HQ ⊢
      clear c0 c1 c2 c3
      have d0 := blk_cell HQ.out (k := 0) (u := .int .i64 m.k) rfl
      have d1 := blk_cell HQ.out (k := 1) (u := .int .i64 m.p) rfl
      have d2 := blk_cell HQ.out (k := 2) (u := .bool m.b) rfl
      have d3 := blk_cell HQ.out (k := 3) (u := .slice mo m.ms.length mc) rfl
      go_wp2_with fail
      refine (HPM.out _ _ m _ _ HMS.out HS.out HOA.out (Nat.le_trans HB.out HAA.out.size) HIM.out HXX.out).mono ?_
      rintro r wz ⟨vz, rfl, ho, ha⟩
      have HOZ := Lib.hid ho
      have HAZ := Lib.hid (HAA.out.trans ha)
      clear ho ha
      go_wp2_with fail
      go_roundw
      case rel => exact ⟨k + 1, by omega, by go_num, by rw [HNX.out]; exact HOZ.out, HAZ.out⟩
      case measure => simp [intOf]; omega
    · obtain rfl : k = l.length := by omega
      have HT : Hid (l.take l.length = l) := List.take_length
      go_wp2_with fail
      go_returns
      have ho := HOK.out
      rw [HT.out] at ho
      exact ⟨_, rfl, ho, HKK.out⟩

set_option maxRecDepth 100000 in
set_option maxHeartbeats 4000000 in
theorem putType_any {S : Nat → Prop} (base : Nat) (v : Value) (B : List Int) (t : List Fl) (w : World) (fv : Value) (hr : RdS flE 4 w S fv t) (hS : ∀ b, S b → b < base) (hown : OwB base w v B) (hb : base ≤ w.heap.size) (hI : Ev.I64s (Dl.enT t)) (hl : (B ++ Ev.encs (Dl.enT t)).length ≤ 1000000) :
    Calls Try.prog 20 #[v, .agg #[fv]] w fun r w' => ∃ v', r = .returned v' ∧ OwB base w' v' (B ++ Ev.encs (Dl.enT t)) ∧ Ad base w w' := by
  obtain ⟨fo, fc, rfl, _, _, _⟩ := hr.open
  have hk : Kp 0 0 w (w.alloc (.cells #[.slice fo t.length fc] 42)) := (Kp.refl _ _ _).alloc _
  have HQ := Lib.hid (blk_one w (.cells #[.slice fo t.length fc] 42))
  have HLF := Lib.hid (putListF_any base v B t _ fo (hr.keep0 flE_good hk) hS (hown.keep0 hk) (Nat.le_trans hb hk.size) ⟨hI _ (List.mem_cons_self ..), fun x hx y hy => hI y (List.mem_cons_of_mem _ (List.mem_flatMap.2 ⟨x, hx, hy⟩))⟩ hl)
  have HA := Lib.hid (Ad.of0 (base := base) hk)
  clear hk hr hown hb hS hI hl
  go_enter Try.func20, Try.ntmps20
  go_upto_region 1 with fail
  generalize w.alloc (.cells #[.slice fo t.length fc] 42) = wq at HQ HLF HA ⊢
  generalize w.heap.size = q at HQ ⊢
  have g0 := blk_cell HQ.out (k := 0) (u := .slice fo t.length fc) rfl
  go_wp2_with fail
  refine HLF.out.mono ?_
  rintro r w2 ⟨v', rfl, ho, ha⟩
  have HO2 := Lib.hid ho
  have HA2 := Lib.hid (HA.out.trans ha)
  clear ho ha HLF HA HQ g0
  go_wp2_with fail
  go_returns
  exact ⟨_, rfl, HO2.out, HA2.out⟩

set_option maxRecDepth 100000 in
set_option maxHeartbeats 4000000 in
theorem putListT_any {S : Nat → Prop} {c : Nat} (base : Nat) (v : Value) (B : List Int) (l : List (List Fl)) (w : World) (ao : Option Addr) (hr : RdS tyE 1 w S (.slice ao l.length c) l) (hS : ∀ b, S b → b < base) (hown : OwB base w v B) (hb : base ≤ w.heap.size) (hI : Ev.I64 (l.length : Int) ∧ ∀ x ∈ l, Ev.I64s (Dl.enT x)) (hl : (B ++ Ev.encs ((l.length : Int) :: l.flatMap Dl.enT)).length ≤ 1000000) :
    Calls Try.prog 19 #[v, .slice ao l.length c, .func (.func 20) #[] #[]] w fun r w' => ∃ v', r = .returned v' ∧ OwB base w' v' (B ++ Ev.encs ((l.length : Int) :: l.flatMap Dl.enT)) ∧ Ad base w w' := by
  obtain ⟨_, _, he, _, hl2, _⟩ := hr.open
  have hl2 : l.length ≤ 9223372036854775807 := by omega
  have HCL := Lib.hid hr.cl
  have HS := Lib.hid hS
  have hk : Kp 0 0 w (w.alloc (.cells #[.int .i64 (l.length : Int)] 3)) := (Kp.refl _ _ _).alloc _
  have HNU := Lib.hid (putNumbers_any base w.heap.size v B [(l.length : Int)] _ (hown.keep0 hk) (blk_one w (.cells #[.int .i64 (l.length : Int)] 3)) (Nat.le_trans hb hk.size) (fun x hx => by rw [List.mem_singleton] at hx; rw [hx]; exact hI.1) (by
    rw [Ev.encs_cons] at hl
    simp only [Ev.encs_cons, Ev.encs_nil, List.append_nil, List.length_append] at hl ⊢
    omega))
  have HA := Lib.hid (Ad.of0 (base := base) hk)
  have HX : Hid (∀ k x, l[k]? = some x → ((B ++ Ev.encs ((l.length : Int) :: (l.take k).flatMap Dl.enT)) ++ Ev.encs (Dl.enT x)).length ≤ 1000000) := fun k x h => Dl.list_len h hl
  have HN : Hid (∀ k x, l[k]? = some x → B ++ Ev.encs ((l.length : Int) :: (l.take (k + 1)).flatMap Dl.enT) = (B ++ Ev.encs ((l.length : Int) :: (l.take k).flatMap Dl.enT)) ++ Ev.encs (Dl.enT x)) := fun k x h => Dl.list_next h
  have HZ : Hid (B ++ Ev.encs ((l.length : Int) :: (l.take 0).flatMap Dl.enT) = B ++ Ev.encs [(l.length : Int)]) := rfl
  have HI := Lib.hid hI.2
  have HB := Lib.hid hb
  have HPM := Lib.hid (fun (v : Value) (B : List Int) (x : List Fl) (w : World) (mv : Value) (hr : RdS flE 4 w S mv x) => putType_any base v B x w mv hr)
  clear hk hown hb hI hl hr he hS
  go_enter Try.func19, Try.ntmps19
  go_wp2_with fail
  refine HNU.out.mono ?_
  rintro r w2 ⟨v1, rfl, ho, ha⟩
  have HO1 := Lib.hid ho
  have HA1 := Lib.hid (HA.out.trans ha)
  clear ho ha HNU HA
  go_wp2_with fail
  go_loopw [0, 8, 16] (fun v' _ i wr => ∃ k : Nat, k ≤ l.length ∧ i = .int .i64 k ∧ OwB base wr v' (B ++ Ev.encs ((l.length : Int) :: (l.take k).flatMap Dl.enT)) ∧ Ad base w wr) (fun _ _ i _ => l.length - (intOf i).toNat)
  case atStart => exact ⟨0, Nat.zero_le _, rfl, by rw [HZ.out]; exact HO1.out, HA1.out⟩
  case round =>
    obtain ⟨k, hk, rfl, hown, hkp⟩ := hrel
    have HOK := Lib.hid hown
    have HKK := Lib.hid hkp
    clear hown hkp
    by_cases hlt : k < l.length
    · obtain ⟨m, hm⟩ : ∃ m, l[k]? = some m := ⟨_, List.getElem?_eq_getElem hlt⟩
      have HNX := Lib.hid (HN.out k m hm)
      have HXX := Lib.hid (HX.out k m hm)
      have HIM := Lib.hid (HI.out m (List.mem_of_getElem? hm))
      obtain ⟨b1, o1, fo, fc, rfl, hb1, c0, _, _, hms⟩ := ty_at HCL.out hm
      have hb1 := HS.out _ hb1
      have c0 := HKK.out.kp.cell c0 (.inl hb1)
      have k0 : (0 : Int) ≤ (k : Int) := Int.natCast_nonneg _
      have k1 : (k : Int) < (l.length : Int) := by omega
      generalize B ++ Ev.encs ((l.length : Int) :: (l.take k).flatMap Dl.enT) = Bk at HOK HNX HXX
      clear hm hb1
      have hka : Kp 0 0 wr (wr.alloc (.cells #[.slice fo m.length fc] 42)) := (Kp.refl _ _ _).alloc _
      have HOA := Lib.hid (HOK.out.keep0 hka)
      have HAA := Lib.hid (HKK.out.trans (Ad.of0 hka))
      have HQ := Lib.hid (blk_one wr (.cells #[.slice fo m.length fc] 42))
      clear hka
      go_upto_region 5 with fail
      have HMS := Lib.hid (hms.keep flE_good HAA.out.kp (fun b hb => .inl (HS.out b hb)))
      clear hms
      generalize wr.alloc (.cells #[.slice fo m.length fc] 42) = wa at HOA HAA HQ HMS ⊢
      generalize wr.heap.size = q at HQ ⊢
      clear c0
      have d0 := blk_cell HQ.out (k := 0) (u := .slice fo m.length fc) rfl
      go_wp2_with fail
      refine (HPM.out _ _ m _ _ HMS.out HS.out HOA.out (Nat.le_trans HB.out HAA.out.size) HIM.out HXX.out).mono ?_
      rintro r wz ⟨vz, rfl, ho, ha⟩
      have HOZ := Lib.hid ho
      have HAZ := Lib.hid (HAA.out.trans ha)
      clear ho ha
      go_wp2_with fail
      go_roundw
      case rel => exact ⟨k + 1, by omega, by go_num, by rw [HNX.out]; exact HOZ.out, HAZ.out⟩
      case measure => simp [intOf]; omega
    · obtain rfl : k = l.length := by omega
      have HT : Hid (l.take l.length = l) := List.take_length
      go_wp2_with fail
      go_returns
      have ho := HOK.out
      rw [HT.out] at ho
      exact ⟨_, rfl, ho, HKK.out⟩

set_option maxRecDepth 100000 in
set_option maxHeartbeats 4000000 in
theorem putListP_any {S : Nat → Prop} {c : Nat} (base : Nat) (v : Value) (B : List Int) (l : List Pj) (w : World) (ao : Option Addr) (hr : RdS pjE 5 w S (.slice ao l.length c) l) (hS : ∀ b, S b → b < base) (hown : OwB base w v B) (hb : base ≤ w.heap.size) (hI : Ev.I64 (l.length : Int) ∧ ∀ x ∈ l, Ev.I64s (Dl.enP x)) (hl : (B ++ Ev.encs ((l.length : Int) :: l.flatMap Dl.enP)).length ≤ 1000000) :
    Calls Try.prog 21 #[v, .slice ao l.length c, .func (.func 22) #[] #[]] w fun r w' => ∃ v', r = .returned v' ∧ OwB base w' v' (B ++ Ev.encs ((l.length : Int) :: l.flatMap Dl.enP)) ∧ Ad base w w' := by
  obtain ⟨_, _, he, _, hl2, _⟩ := hr.open
  have hl2 : l.length ≤ 9223372036854775807 := by omega
  have HCL := Lib.hid hr.cl
  have HS := Lib.hid hS
  have hk : Kp 0 0 w (w.alloc (.cells #[.int .i64 (l.length : Int)] 3)) := (Kp.refl _ _ _).alloc _
  have HNU := Lib.hid (putNumbers_any base w.heap.size v B [(l.length : Int)] _ (hown.keep0 hk) (blk_one w (.cells #[.int .i64 (l.length : Int)] 3)) (Nat.le_trans hb hk.size) (fun x hx => by rw [List.mem_singleton] at hx; rw [hx]; exact hI.1) (by
    rw [Ev.encs_cons] at hl
    simp only [Ev.encs_cons, Ev.encs_nil, List.append_nil, List.length_append] at hl ⊢
    omega))
  have HA := Lib.hid (Ad.of0 (base := base) hk)
  have HX : Hid (∀ k x, l[k]? = some x → ((B ++ Ev.encs ((l.length : Int) :: (l.take k).flatMap Dl.enP)) ++ Ev.encs (Dl.enP x)).length ≤ 1000000) := fun k x h => Dl.list_len h hl
  have HN : Hid (∀ k x, l[k]? = some x → B ++ Ev.encs ((l.length : Int) :: (l.take (k + 1)).flatMap Dl.enP) = (B ++ Ev.encs ((l.length : Int) :: (l.take k).flatMap Dl.enP)) ++ Ev.encs (Dl.enP x)) := fun k x h => Dl.list_next h
  have HZ : Hid (B ++ Ev.encs ((l.length : Int) :: (l.take 0).flatMap Dl.enP) = B ++ Ev.encs [(l.length : Int)]) := rfl
  have HI := Lib.hid hI.2
  have HB := Lib.hid hb
  have HPM := Lib.hid (fun (v : Value) (B : List Int) (x : Pj) (w : World) => putProj_any base v B x w)
  clear hk hown hb hI hl hr he hS
  go_enter Try.func21, Try.ntmps21
  go_wp2_with fail
  refine HNU.out.mono ?_
  rintro r w2 ⟨v1, rfl, ho, ha⟩
  have HO1 := Lib.hid ho
  have HA1 := Lib.hid (HA.out.trans ha)
  clear ho ha HNU HA
  go_wp2_with fail
  go_loopw [0, 8, 16] (fun v' _ i wr => ∃ k : Nat, k ≤ l.length ∧ i = .int .i64 k ∧ OwB base wr v' (B ++ Ev.encs ((l.length : Int) :: (l.take k).flatMap Dl.enP)) ∧ Ad base w wr) (fun _ _ i _ => l.length - (intOf i).toNat)
  case atStart => exact ⟨0, Nat.zero_le _, rfl, by rw [HZ.out]; exact HO1.out, HA1.out⟩
  case round =>
    obtain ⟨k, hk, rfl, hown, hkp⟩ := hrel
    have HOK := Lib.hid hown
    have HKK := Lib.hid hkp
    clear hown hkp
    by_cases hlt : k < l.length
    · obtain ⟨m, hm⟩ : ∃ m, l[k]? = some m := ⟨_, List.getElem?_eq_getElem hlt⟩
      have HNX := Lib.hid (HN.out k m hm)
      have HXX := Lib.hid (HX.out k m hm)
      have HIM := Lib.hid (HI.out m (List.mem_of_getElem? hm))
      obtain ⟨b1, o1, rfl, hb1, c0, c1, c2, c3, c4⟩ := pj_at HCL.out hm
      have hb1 := HS.out _ hb1
      have c0 := HKK.out.kp.cell c0 (.inl hb1)
      have c1 := HKK.out.kp.cell c1 (.inl hb1)
      have c2 := HKK.out.kp.cell c2 (.inl hb1)
      have c3 := HKK.out.kp.cell c3 (.inl hb1)
      have c4 := HKK.out.kp.cell c4 (.inl hb1)
      have k0 : (0 : Int) ≤ (k : Int) := Int.natCast_nonneg _
      have k1 : (k : Int) < (l.length : Int) := by omega
      generalize B ++ Ev.encs ((l.length : Int) :: (l.take k).flatMap Dl.enP) = Bk at HOK HNX HXX
      clear hm hb1
      have hka : Kp 0 0 wr (wr.alloc (.cells #[.int .i64 m.t, .int .i64 m.f, .int .i64 m.g, .int .i64 m.b, .int .i64 m.m] 51)) := (Kp.refl _ _ _).alloc _
      have HOA := Lib.hid (HOK.out.keep0 hka)
      have HAA := Lib.hid (HKK.out.trans (Ad.of0 hka))
      have HQ := Lib.hid (blk_one wr (.cells #[.int .i64 m.t, .int .i64 m.f, .int .i64 m.g, .int .i64 m.b, .int .i64 m.m] 51))
      clear hka
      go_upto_region 5 with fail
      generalize wr.alloc (.cells #[.int .i64 m.t, .int .i64 m.f, .int .i64 m.g, .int .i64 m.b, .int .i64 m.m] 51) = wa at HOA HAA HQ ⊢
      generalize wr.heap.size = q at HQ ⊢
      clear c0 c1 c2 c3 c4
      have d0 := blk_cell HQ.out (k := 0) (u := .int .i64 m.t) rfl
      have d1 := blk_cell HQ.out (k := 1) (u := .int .i64 m.f) rfl
      have d2 := blk_cell HQ.out (k := 2) (u := .int .i64 m.g) rfl
      have d3 := blk_cell HQ.out (k := 3) (u := .int .i64 m.b) rfl
      have d4 := blk_cell HQ.out (k := 4) (u := .int .i64 m.m) rfl
      go_wp2_with fail
      refine (HPM.out _ _ m _ HOA.out (Nat.le_trans HB.out HAA.out.size) HIM.out HXX.out).mono ?_
      rintro r wz ⟨vz, rfl, ho, ha⟩
      have HOZ := Lib.hid ho
      have HAZ := Lib.hid (HAA.out.trans ha)
      clear ho ha
      go_wp2_with fail
      go_roundw
      case rel => exact ⟨k + 1, by omega, by go_num, by rw [HNX.out]; exact HOZ.out, HAZ.out⟩
      case measure => simp [intOf]; omega
    · obtain rfl : k = l.length := by omega
      have HT : Hid (l.take l.length = l) := List.take_length
      go_wp2_with fail
      go_returns
      have ho := HOK.out
      rw [HT.out] at ho
      exact ⟨_, rfl, ho, HKK.out⟩

theorem wide1_any (f : Fl) (w : World) (mo : Option Addr) (mc : Nat) :
    Calls Try.prog 54 #[.agg #[.int .i64 f.k, .int .i64 f.p, .bool f.b, .slice mo f.ms.length mc]] w fun r w' => r = .returned (.bool (Dl.manyF f)) ∧ Kp 0 0 w w' := by
  have HK : Hid (Kp 0 0 w (w.alloc (.cells #[.int .i64 f.k, .int .i64 f.p, .bool f.b, .slice mo f.ms.length mc] 45))) := (Kp.refl _ _ _).alloc _
  have HQ := Lib.hid (blk_one w (.cells #[.int .i64 f.k, .int .i64 f.p, .bool f.b, .slice mo f.ms.length mc] 45))
  have HM : Hid (Dl.manyF f = decide (16 < f.ms.length)) := rfl
  go_enter Try.func54, Try.ntmps54
  go_upto_region 1 with fail
  generalize w.alloc (.cells #[.int .i64 f.k, .int .i64 f.p, .bool f.b, .slice mo f.ms.length mc] 45) = wq at HQ HK ⊢
  generalize w.heap.size = q at HQ ⊢
  have g3 := blk_cell HQ.out (k := 3) (u := .slice mo f.ms.length mc) rfl
  go_wp2_with fail
  go_returns
  refine ⟨?_, HK.out⟩
  rw [HM.out]
  congr 2
  by_cases h : 16 < f.ms.length <;> simp [h] <;> omega

set_option maxHeartbeats 1000000 in
/-- slices.IndexFunc over a type's fields: a place, or -1. -/
theorem index_wide1 {S : Nat → Prop} {c : Nat} (l : List Fl) (w : World) (ao : Option Addr) (hv : RdS flE 4 w S (.slice ao l.length c) l) :
    Calls Try.prog 64 #[.slice ao l.length c, .func (.func 54) #[] #[]] w fun r w' => ∃ x : Int, r = .returned (.int .i64 x) ∧ Kp 0 0 w w' ∧ ((x = -1 ∧ l.any Dl.manyF = false) ∨ (0 ≤ x ∧ l.any Dl.manyF = true)) := by
  obtain ⟨_, _, he, _, hl2, _⟩ := hv.open
  have hl2 : l.length ≤ 9223372036854775807 := by omega
  have HCL := Lib.hid hv.cl
  clear hv he
  go_enter Try.func64, Try.ntmps64
  go_wp2_with fail
  go_loopw [5, 8] (fun _ i wr => ∃ k : Nat, k ≤ l.length ∧ i = .int .i64 k ∧ Hid (Sc.None Dl.manyF l k) ∧ Kp 0 0 w wr) (fun _ i _ => l.length - (intOf i).toNat)
  case atStart => exact ⟨0, Nat.zero_le _, rfl, Sc.None.zero _ _, Kp.refl _ _ _⟩
  case round =>
    obtain ⟨k, hk, rfl, HALL, hkp⟩ := hrel
    have HKP := Lib.hid hkp
    clear hkp
    by_cases hlt : k < l.length
    · obtain ⟨m, hm⟩ : ∃ m, l[k]? = some m := ⟨_, List.getElem?_eq_getElem hlt⟩
      have HNX : Hid (Dl.manyF m = false → Sc.None Dl.manyF l (k + 1)) := fun h => HALL.out.step hm h
      have HST : Hid (Dl.manyF m = true → l.any Dl.manyF = true) := fun h => Sc.any_stop hm h
      obtain ⟨b1, o1, mo, mc, rfl, _, c0, c1, c2, c3, _, _, _⟩ := fl_at HCL.out hm
      have c0 := HKP.out.cell c0 (.inr (Nat.zero_le _))
      have c1 := HKP.out.cell c1 (.inr (Nat.zero_le _))
      have c2 := HKP.out.cell c2 (.inr (Nat.zero_le _))
      have c3 := HKP.out.cell c3 (.inr (Nat.zero_le _))
      have k0 : (0 : Int) ≤ (k : Int) := Int.natCast_nonneg _
      have k1 : (k : Int) < (l.length : Int) := by omega
      clear hm
      cases hb : Dl.manyF m with
      | true =>
        have HB := Lib.hid (HST.out hb)
        go_wp2_with fail
        refine (wide1_any m _ _ _).mono ?_
        rintro r w2 ⟨rfl, hk2⟩
        have HK2 := Lib.hid (HKP.out.trans hk2)
        clear hk2
        rw [hb]
        go_wp2_with fail
        go_returns
        exact ⟨k, rfl, HK2.out, .inr ⟨by omega, HB.out⟩⟩
      | false =>
        have HB := Lib.hid (HNX.out hb)
        go_wp2_with fail
        refine (wide1_any m _ _ _).mono ?_
        rintro r w2 ⟨rfl, hk2⟩
        have HK2 := Lib.hid (HKP.out.trans hk2)
        clear hk2
        rw [hb]
        go_wp2_with fail
        go_roundw
        case rel => exact ⟨k + 1, by omega, by go_num, HB.out, HK2.out⟩
        case measure => simp [intOf]; omega
    · obtain rfl : k = l.length := by omega
      have HB := Lib.hid HALL.out.done
      go_wp2_with fail
      go_returns
      exact ⟨-1, rfl, HKP.out, .inl ⟨rfl, HB.out⟩⟩

/-- slices.ContainsFunc over it. -/
theorem some_wide1 {S : Nat → Prop} {c : Nat} (l : List Fl) (w : World) (ao : Option Addr) (hv : RdS flE 4 w S (.slice ao l.length c) l) :
    Calls Try.prog 53 #[.slice ao l.length c, .func (.func 54) #[] #[]] w fun r w' => r = .returned (.bool (l.any Dl.manyF)) ∧ Kp 0 0 w w' := by
  have HI := Lib.hid (index_wide1 l w ao hv)
  clear hv 
  go_enter Try.func53, Try.ntmps53
  go_wp2_with fail
  refine HI.out.mono ?_
  rintro r w2 ⟨x, rfl, hk, hx⟩
  have HK := Lib.hid hk
  clear hk
  rcases hx with ⟨rfl, hx⟩ | ⟨h0, hx⟩
  · have HX := Lib.hid hx
    clear hx
    go_wp2_with fail
    go_returns
    exact ⟨by rw [HX.out]; rfl, HK.out⟩
  · have HX := Lib.hid hx
    clear hx
    go_wp2_with fail
    go_returns
    exact ⟨by rw [HX.out]; rfl, HK.out⟩

set_option maxHeartbeats 1000000 in
theorem wide_any {S : Nat → Prop} {c : Nat} (t : List Fl) (w : World) (ao : Option Addr) (hv : RdS flE 4 w S (.slice ao t.length c) t) :
    Calls Try.prog 39 #[.agg #[.slice ao t.length c]] w fun r w' => r = .returned (.bool (Dl.manyT t)) ∧ Kp 0 0 w w' := by
  have hka : Kp 0 0 w (w.alloc (.cells #[.slice ao t.length c] 42)) := (Kp.refl _ _ _).alloc _
  have HQ := Lib.hid (blk_one w (.cells #[.slice ao t.length c] 42))
  have HS := Lib.hid (some_wide1 t _ ao (hv.keep0 flE_good hka))
  have HK := Lib.hid hka
  have HM : Hid (Dl.manyT t = (decide (8 < t.length) || t.any Dl.manyF)) := rfl
  clear hka hv
  go_enter Try.func39, Try.ntmps39
  go_upto_region 1 with fail
  generalize w.alloc (.cells #[.slice ao t.length c] 42) = wq at HQ HK HS ⊢
  generalize w.heap.size = q at HQ ⊢
  have g0 := blk_cell HQ.out (k := 0) (u := .slice ao t.length c) rfl
  by_cases h : 8 < t.length
  · have HR : Hid (Dl.manyT t = true) := by show _ = _; rw [HM.out]; simp [h]
    have h' : (8 : Int) < (t.length : Int) := by omega
    clear HM HS
    go_wp2_with fail
    go_returns
    exact ⟨by rw [HR.out]; rfl, HK.out⟩
  · have HR : Hid (Dl.manyT t = t.any Dl.manyF) := by show _ = _; rw [HM.out]; simp [h]
    have h' : ¬ (8 : Int) < (t.length : Int) := by omega
    generalize t.any Dl.manyF = z at HR HS
    clear HM
    go_wp2_with fail
    refine HS.out.mono ?_
    rintro r w2 ⟨rfl, hk2⟩
    have HK2 := Lib.hid (HK.out.trans hk2)
    clear hk2
    go_wp2_with fail
    go_returns
    exact ⟨by rw [HR.out]; rfl, HK2.out⟩

set_option maxHeartbeats 1000000 in
/-- slices.IndexFunc over types: a place, or -1. -/
theorem index_wide {S : Nat → Prop} {c : Nat} (l : List (List Fl)) (w : World) (ao : Option Addr) (hv : RdS tyE 1 w S (.slice ao l.length c) l) :
    Calls Try.prog 52 #[.slice ao l.length c, .func (.func 39) #[] #[]] w fun r w' => ∃ x : Int, r = .returned (.int .i64 x) ∧ Kp 0 0 w w' ∧ ((x = -1 ∧ l.any Dl.manyT = false) ∨ (0 ≤ x ∧ l.any Dl.manyT = true)) := by
  obtain ⟨_, _, he, _, hl2, _⟩ := hv.open
  have hl2 : l.length ≤ 9223372036854775807 := by omega
  have HCL := Lib.hid hv.cl
  clear hv he
  go_enter Try.func52, Try.ntmps52
  go_wp2_with fail
  go_loopw [5, 8] (fun _ i wr => ∃ k : Nat, k ≤ l.length ∧ i = .int .i64 k ∧ Hid (Sc.None Dl.manyT l k) ∧ Kp 0 0 w wr) (fun _ i _ => l.length - (intOf i).toNat)
  case atStart => exact ⟨0, Nat.zero_le _, rfl, Sc.None.zero _ _, Kp.refl _ _ _⟩
  case round =>
    obtain ⟨k, hk, rfl, HALL, hkp⟩ := hrel
    have HKP := Lib.hid hkp
    clear hkp
    by_cases hlt : k < l.length
    · obtain ⟨m, hm⟩ : ∃ m, l[k]? = some m := ⟨_, List.getElem?_eq_getElem hlt⟩
      have HNX : Hid (Dl.manyT m = false → Sc.None Dl.manyT l (k + 1)) := fun h => HALL.out.step hm h
      have HST : Hid (Dl.manyT m = true → l.any Dl.manyT = true) := fun h => Sc.any_stop hm h
      obtain ⟨b1, o1, mo, mc, rfl, _, c0, _, _, hms⟩ := ty_at HCL.out hm
      have c0 := HKP.out.cell c0 (.inr (Nat.zero_le _))
      have k0 : (0 : Int) ≤ (k : Int) := Int.natCast_nonneg _
      have k1 : (k : Int) < (l.length : Int) := by omega
      have HMS := Lib.hid (hms.keep0 flE_good HKP.out)
      clear hm hms
      cases hb : Dl.manyT m with
      | true =>
        have HB := Lib.hid (HST.out hb)
        go_wp2_with fail
        refine (wide_any m _ _ HMS.out).mono ?_
        rintro r w2 ⟨rfl, hk2⟩
        have HK2 := Lib.hid (HKP.out.trans hk2)
        clear hk2
        rw [hb]
        go_wp2_with fail
        go_returns
        exact ⟨k, rfl, HK2.out, .inr ⟨by omega, HB.out⟩⟩
      | false =>
        have HB := Lib.hid (HNX.out hb)
        go_wp2_with fail
        refine (wide_any m _ _ HMS.out).mono ?_
        rintro r w2 ⟨rfl, hk2⟩
        have HK2 := Lib.hid (HKP.out.trans hk2)
        clear hk2
        rw [hb]
        go_wp2_with fail
        go_roundw
        case rel => exact ⟨k + 1, by omega, by go_num, HB.out, HK2.out⟩
        case measure => simp [intOf]; omega
    · obtain rfl : k = l.length := by omega
      have HB := Lib.hid HALL.out.done
      go_wp2_with fail
      go_returns
      exact ⟨-1, rfl, HKP.out, .inl ⟨rfl, HB.out⟩⟩

/-- slices.ContainsFunc over it. -/
theorem some_wide {S : Nat → Prop} {c : Nat} (l : List (List Fl)) (w : World) (ao : Option Addr) (hv : RdS tyE 1 w S (.slice ao l.length c) l) :
    Calls Try.prog 38 #[.slice ao l.length c, .func (.func 39) #[] #[]] w fun r w' => r = .returned (.bool (l.any Dl.manyT)) ∧ Kp 0 0 w w' := by
  have HI := Lib.hid (index_wide l w ao hv)
  clear hv 
  go_enter Try.func38, Try.ntmps38
  go_wp2_with fail
  refine HI.out.mono ?_
  rintro r w2 ⟨x, rfl, hk, hx⟩
  have HK := Lib.hid hk
  clear hk
  rcases hx with ⟨rfl, hx⟩ | ⟨h0, hx⟩
  · have HX := Lib.hid hx
    clear hx
    go_wp2_with fail
    go_returns
    exact ⟨by rw [HX.out]; rfl, HK.out⟩
  · have HX := Lib.hid hx
    clear hx
    go_wp2_with fail
    go_returns
    exact ⟨by rw [HX.out]; rfl, HK.out⟩


set_option maxHeartbeats 1000000 in
theorem tooMany_any {S : Nat → Prop} (d : Dc) (w : World) (tv pv : Value) (hd : RdD w S tv pv d) :
    Calls Try.prog 18 #[.agg #[tv, pv]] w fun r w' => r = .returned (.bool (Dl.many d)) ∧ Kp 0 0 w w' := by
  obtain ⟨to, tc, rfl, _, _, _⟩ := hd.t.open
  obtain ⟨po, pc, rfl, _, _, _⟩ := hd.p.open
  have hka : Kp 0 0 w (w.alloc (.cells #[.slice to d.ts.length tc, .slice po d.ps.length pc] 25)) := (Kp.refl _ _ _).alloc _
  have HQ := Lib.hid (blk_one w (.cells #[.slice to d.ts.length tc, .slice po d.ps.length pc] 25))
  have HS := Lib.hid (some_wide d.ts _ to (hd.t.keep0 tyE_good hka))
  have HK := Lib.hid hka
  have HM : Hid (Dl.many d = (decide (8 < d.ts.length) || decide (8 < d.ps.length) || d.ts.any Dl.manyT)) := rfl
  clear hka hd
  go_enter Try.func18, Try.ntmps18
  go_upto_region 1 with fail
  generalize w.alloc (.cells #[.slice to d.ts.length tc, .slice po d.ps.length pc] 25) = wq at HQ HK HS ⊢
  generalize w.heap.size = q at HQ ⊢
  have g0 := blk_cell HQ.out (k := 0) (u := .slice to d.ts.length tc) rfl
  have g1 := blk_cell HQ.out (k := 1) (u := .slice po d.ps.length pc) rfl
  by_cases h : 8 < d.ts.length
  · have HR : Hid (Dl.many d = true) := by show _ = _; rw [HM.out]; simp [h]
    have h' : (8 : Int) < (d.ts.length : Int) := by omega
    clear HM HS
    go_wp2_with fail
    go_returns
    exact ⟨by rw [HR.out]; rfl, HK.out⟩
  · have h' : ¬ (8 : Int) < (d.ts.length : Int) := by omega
    by_cases hp : 8 < d.ps.length
    · have HR : Hid (Dl.many d = true) := by show _ = _; rw [HM.out]; simp [hp]
      have hp' : (8 : Int) < (d.ps.length : Int) := by omega
      clear HM HS
      go_wp2_with fail
      go_returns
      exact ⟨by rw [HR.out]; rfl, HK.out⟩
    · have hp' : ¬ (8 : Int) < (d.ps.length : Int) := by omega
      have HR : Hid (Dl.many d = d.ts.any Dl.manyT) := by show _ = _; rw [HM.out]; simp [h, hp]
      generalize d.ts.any Dl.manyT = z at HR HS
      clear HM
      go_wp2_with fail
      refine HS.out.mono ?_
      rintro r w2 ⟨rfl, hk2⟩
      have HK2 := Lib.hid (HK.out.trans hk2)
      clear hk2
      go_wp2_with fail
      go_returns
      exact ⟨by rw [HR.out]; rfl, HK2.out⟩

end Go.Proofs.Ytgokhagbknlfaaa
