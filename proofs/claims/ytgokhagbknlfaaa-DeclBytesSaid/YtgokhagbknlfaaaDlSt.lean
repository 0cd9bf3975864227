/-
  The landed reader at a state (for what package decl reads with it).
-/
import Derived.Test.YtgokhagbknlfaaaDlSpec
import Derived.Test.YtgokhagbknlfaaaReaderI
namespace Go.Proofs.Ytgokhagbknlfaaa
open Go.RowKit
set_option maxRecDepth 100000

theorem rest_int {l : List Int} {er : Int} {y : Int} (h : y ∈ (Pk.rdInt l er).2.1) : y ∈ l := by
  unfold Pk.rdInt Pk.nxt at h
  split at h
  · simp only at h
    split at h
    · exact List.mem_of_mem_drop h
    · exact h
  · exact h

theorem rest_cnt {m : Int} {l : List Int} {er : Int} {y : Int} (h : y ∈ (Pk.rdCnt m l er).2.1) : y ∈ l := by
  unfold Pk.rdCnt Pk.nxt at h
  split at h
  · simp only at h
    split at h
    · exact List.mem_of_mem_drop h
    · exact h
  · exact h

/-- The reader in block p stands at s. -/
structure LS (p lo : Nat) (w : World) (s : Ev.St) : Prop where
  rd : Rdr p lo w s.1 s.2
  bs : ∀ y ∈ s.1, 0 ≤ y ∧ y < 256
  hlp : lo ≤ p

theorem LS.keep {p lo a b : Nat} {w w' : World} {s : Ev.St} (h : LS p lo w s) (hk : Kp a b w w') (ha : p < a) : LS p lo w' s := ⟨h.rd.keep hk (fun _ _ _ => .inl (by omega)) h.hlp, h.bs, h.hlp⟩
theorem LS.keep0 {p lo : Nat} {w w' : World} {s : Ev.St} (h : LS p lo w s) (hk : Kp 0 0 w w') : LS p lo w' s := ⟨h.rd.keep0 hk, h.bs, h.hlp⟩
theorem LS.lt {p lo : Nat} {w : World} {s : Ev.St} (h : LS p lo w s) : p < w.heap.size := h.rd.lt

theorem ls_int {p lo : Nat} (s : Ev.St) (w : World) (h : LS p lo w s) :
    Calls Try.prog 49 #[.pointer (some ⟨p, 0, none⟩)] w fun e w' => e = .returned (.int .i64 (Ev.i1 s).1) ∧ LS p lo w' (Ev.i1 s).2 ∧ Kp p (p + 1) w w' :=
  (rint_any s.1 s.2 w h.rd h.bs).mono fun _ _ ⟨he, hr, hk⟩ => ⟨he, ⟨hr, fun y hy => h.bs y (rest_int hy), h.hlp⟩, hk⟩

theorem ls_cnt {p lo : Nat} (m : Int) (s : Ev.St) (w : World) (h : LS p lo w s) :
    Calls Try.prog 46 #[.pointer (some ⟨p, 0, none⟩), .int .i64 m] w fun e w' => e = .returned (.int .i64 (Dl.cn m s).1) ∧ LS p lo w' (Dl.cn m s).2 ∧ Kp p (p + 1) w w' :=
  (rcount_any m s.1 s.2 w h.rd h.bs).mono fun _ _ ⟨he, hr, hk⟩ => ⟨he, ⟨hr, fun y hy => h.bs y (rest_cnt hy), h.hlp⟩, hk⟩

theorem ls_done {p lo : Nat} (s : Ev.St) (w : World) (h : LS p lo w s) :
    Calls Try.prog 32 #[.pointer (some ⟨p, 0, none⟩)] w fun e w' => e = .returned (.int .i64 (Pk.dne s.1 s.2)) ∧ Kp 0 0 w w' :=
  (done_any s.1 s.2 w h.rd).mono fun _ _ ⟨he, hw⟩ => ⟨he, hw ▸ Kp.refl _ _ _⟩

theorem ls_from {lo hi : Nat} (v : Value) (l : List Int) (w : World) (h : RdI .u8 lo hi w v l) (hb : ∀ y ∈ l, 0 ≤ y ∧ y < 256) (hl : l.length ≤ 140737488355328) :
    Calls Try.prog 27 #[v] w fun e w' => ∃ p, e = .returned (.pointer (some ⟨p, 0, none⟩)) ∧ w.heap.size ≤ p ∧ LS p w.heap.size w' (l, 0) ∧ Kp 0 0 w w' :=
  (from_any v l w h hl).mono fun _ _ ⟨p, he, hp, hr, hk⟩ => ⟨p, he, hp, ⟨hr, hb, hp⟩, hk⟩

end Go.Proofs.Ytgokhagbknlfaaa
