/-
  Contracts of the seals. Strings of at most 2^46 bytes.
-/
import Derived.Test.YtecimgennncjkaaDoorSeal
namespace Go.Proofs.YtecimgennncjkaaDoor
open Go.RowKit
set_option linter.all false

def seal4 (n : Nat) : List UInt8 := [UInt8.ofNat (n % 256), UInt8.ofNat (n / 256 % 256), UInt8.ofNat (n / 65536 % 256), UInt8.ofNat (n / 16777216 % 256)]
def sealL (l : List UInt8) : List UInt8 := seal4 (chk l) ++ l
theorem seal4_len (n : Nat) : (seal4 n).length = 4 := rfl
/-- The four cells of a seal. -/
def sealC (n : Nat) : Array Value := #[.int .u8 ((n : Int) % 256), .int .u8 ((n : Int) / 256 % 256), .int .u8 ((n : Int) / 65536 % 256), .int .u8 ((n : Int) / 16777216 % 256)]
theorem seal4_cell (n : Nat) : ∀ j (hj : j < (seal4 n).length), (sealC n)[j]? = some (.int .u8 ((seal4 n)[j].toNat : Int)) := by
  intro j hj
  rw [seal4_len] at hj
  have h : ∀ m : Nat, (((UInt8.ofNat (m % 256)).toNat : Nat) : Int) = (m : Int) % 256 := by intro m; simp
  match j, hj with
  | 0, _ => simp [sealC, seal4, h]
  | 1, _ => simp [sealC, seal4]
  | 2, _ => simp [sealC, seal4]
  | 3, _ => simp [sealC, seal4]
theorem run_seal {P : Program} {src dst e : TypeId} (n : Nat) (w : World) (hs : P.underlying src = some (.slice e)) (he : P.underlying e = some (.int .u8)) (hd : P.underlying dst = some .string) (b : Nat)
    (hc : ∀ j, j < 4 → w.cell? ⟨b, j, none⟩ = (sealC n)[j]?) :
    (convert src dst (.slice (some ⟨b, 0, none⟩) 4 4)).run P w = .ok (.string ⟨(seal4 n).toArray⟩) w := by
  have := run_convert_bytes_back (P := P) w src dst e ⟨b, 0, none⟩ 4 (seal4 n) hs he hd (fun j hj => by
    rw [show (⟨b, 0, none⟩ : Addr).add j = ⟨b, j, none⟩ by unfold Addr.add; split <;> simp_all]
    rw [hc j (by rw [seal4_len] at hj; exact hj)]
    exact seal4_cell n j hj)
  rwa [seal4_len] at this
theorem cell_new {w : World} {C : Array Value} {t : TypeId} {fr : Nat × Nat} (j : Nat) : (w.alloc (.cells C t fr)).cell? ⟨w.heap.size, j, none⟩ = C[j]? := World.cell?_alloc_mark w C t fr j
theorem ck_list (l : List UInt8) : chk (ByteArray.mk l.toArray).data.toList = chk l := rfl
set_option maxHeartbeats 400000 in
theorem sealText_spec (l : List UInt8) (w : World) (hs : l.length ≤ 70368744177664) :
    Calls Tryd.prog 68 #[.string ⟨l.toArray⟩] w fun e w' => e = .returned (.string ⟨(sealL l).toArray⟩) ∧ Below w.heap.size w w' := by
  have hcv := run_seal (P := Tryd.prog) (src := 22) (dst := 9) (e := 5) (chk l) (w.alloc (.cells (sealC (chk l)) 5)) Tryd.underlying22 Tryd.underlying5 Tryd.underlying9 w.heap.size (fun j _ => cell_new j)
  have h4 := seal4_len (chk l)
  unfold sealC at hcv
  go_enter Tryd.func68, Tryd.ntmps68
  go_wp2_with (go_at_call 103; refine (checksum_spec _ _ (by simp [ByteArray.size]; omega)).mono ?_; rintro e w' ⟨rfl, rfl⟩; rw [ck_list])
  go_ret
  exact ⟨by rw [ByteArray.mk_append_mk]; rfl, (Below.refl _ _).alloc (Nat.le_refl _) _⟩
set_option maxHeartbeats 400000 in
theorem sealOf_impl (l : List UInt8) (w : World) (hs : l.length ≤ 70368744177664) :
    Calls Tryd.prog 77 #[.string ⟨l.toArray⟩] w fun e w' => e = .returned (.agg (sealC (chk l))) ∧ w.alloc (.cells (sealC (chk l)) 101) = w' := by
  go_enter Tryd.func77, Tryd.ntmps77
  go_wp2_with (go_at_call 110; refine (checksum_impl _ _ (by simp [ByteArray.size]; omega)).mono ?_; rintro e w' ⟨rfl, rfl⟩; rw [ck_list])
  refine bodyPost_ret (v := .agg (sealC (chk l))) (by simp [results, Tryd.results77, go_sem, sealC]) rfl ⟨rfl, rfl⟩
set_option maxHeartbeats 400000 in
theorem sealText_impl (l : List UInt8) (w : World) (hs : l.length ≤ 70368744177664) :
    Calls Tryd.prog 35 #[.string ⟨l.toArray⟩] w fun e w' => e = .returned (.string ⟨(sealL l).toArray⟩) ∧ Below w.heap.size w w' := by
  have hcv := fun (W : World) => run_seal (P := Tryd.prog) (src := 22) (dst := 9) (e := 5) (chk l) ((W.alloc (.cells (sealC (chk l)) 101)).alloc (.cells (sealC (chk l)) 101)) Tryd.underlying22 Tryd.underlying5 Tryd.underlying9 (W.heap.size + 1) (fun j _ => by have := cell_new (w := W.alloc (.cells (sealC (chk l)) 101)) (C := sealC (chk l)) (t := 101) (fr := (0, 0)) j; simpa using this)
  have h4 := seal4_len (chk l)
  unfold sealC at hcv
  go_enter Tryd.func35, Tryd.ntmps35
  go_wp2_with (go_at_call 77; refine (sealOf_impl l _ hs).mono ?_; rintro e w1 ⟨rfl, rfl⟩; unfold sealC)
  go_ret
  exact ⟨by rw [ByteArray.mk_append_mk]; rfl, ((Below.refl _ _).alloc (Nat.le_refl _) _).alloc (by simp) _⟩
end Go.Proofs.YtecimgennncjkaaDoor
