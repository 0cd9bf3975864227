/-
  Bytes as numbers without a sign, and back; crc.More and crc.Sum said of these.
-/
import Derived.Test.YtpdkfafnffihjaaDoorMore
namespace Go.Proofs.YtpdkfafnffihjaaDoor
open Go.RowKit

def ints (l : List Nat) : List Int := l.map fun (x : Nat) => (x : Int)

theorem nats_ints (l : List Nat) : nats (ints l) = l := by
  simp [nats, ints, Function.comp_def]

theorem ints_len (l : List Nat) : (ints l).length = l.length := List.length_map _

theorem ints_byte {l : List Nat} (h : ∀ x ∈ l, x < 256) : ∀ y ∈ ints l, 0 ≤ y ∧ y < 256 := by
  intro y hy
  obtain ⟨x, hx, rfl⟩ := List.mem_map.1 hy
  have := h x hx
  omega

theorem ints_nats {l : List Int} (h : ∀ y ∈ l, 0 ≤ y ∧ y < 256) : ints (nats l) = l := by
  unfold ints nats
  rw [List.map_map]
  conv => rhs; rw [← List.map_id l]
  refine List.map_congr_left fun y hy => ?_
  have := h y hy
  simp
  omega

theorem more_ints {l1 h1 : Nat} (s : Nat) (l : List Nat) (w : World) (v : Value) (hs : s < 4294967296) (hl : RdI .u8 l1 h1 w v (ints l)) (hb : ∀ x ∈ l, x < 256) (ht : Tabs w) :
    Calls Tryd.prog 30 #[.int .u32 s, v] w fun e w' => e = .returned (.int .u32 (Crc.more s l : Nat)) ∧ Kp 0 0 w w' := by
  have h := more_any s (ints l) w v hs hl (ints_byte hb) ht
  rwa [nats_ints] at h

theorem sum_ints {l1 h1 : Nat} (l : List Nat) (w : World) (v : Value) (hl : RdI .u8 l1 h1 w v (ints l)) (hb : ∀ x ∈ l, x < 256) (ht : Tabs w) :
    Calls Tryd.prog 24 #[v] w fun e w' => e = .returned (.int .u32 (Crc.more 0 l : Nat)) ∧ Kp 0 0 w w' := by
  have h := sum_any (ints l) w v hl (ints_byte hb) ht
  rwa [nats_ints] at h

theorem byte_xor {x y : Nat} (hx : x < 256) (hy : y < 256) : x ^^^ y < 256 := by
  have : x ^^^ y < 2 ^ 8 := Nat.xor_lt_two_pow (by omega) (by omega)
  omega

theorem getD_byte {l : List Nat} (h : ∀ x ∈ l, x < 256) (i : Nat) : l.getD i 0 < 256 := by
  by_cases hi : i < l.length
  · have : l.getD i 0 ∈ l := by simp [List.getD, hi]
    exact h _ this
  · simp [List.getD, Nat.le_of_not_lt hi]

end Go.Proofs.YtpdkfafnffihjaaDoor
