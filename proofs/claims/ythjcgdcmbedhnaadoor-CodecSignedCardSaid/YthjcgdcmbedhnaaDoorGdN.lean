/-
  Codec: a number as a part of what is signed.
-/
import Derived.Test.YthjcgdcmbedhnaaDoorHashO
namespace Go.Proofs.YthjcgdcmbedhnaaDoor
open Go.RowKit

theorem made8 (w : World) : Sem.run Tryd.prog (Instr.makeSlice 37 (.int .i64 8) (.int .i64 8)) w = .ok (.slice (some ⟨w.heap.size, 0, none⟩) 8 8) (w.alloc (.cells #[.int .u8 0, .int .u8 0, .int .u8 0, .int .u8 0, .int .u8 0, .int .u8 0, .int .u8 0, .int .u8 0] 5)) := by
  obtain ⟨i, hi, hz0, hz1, hz2⟩ := info_parts (P := Tryd.prog) (e := 5) (z := .int .u8 0) (size := 1) (bytes := 1) (by kernel_rfl)
  have h := run_make (P := Tryd.prog) w 37 5 i _ Tryd.underlying37 hi hz0 .i64 .i64 8 8 (by omega) (Int.le_refl _) (by rw [hz2]; decide) (by omega)
  rw [hz1] at h
  have e : madeCells (Value.int .u8 0).cells (Int.toNat 8 * 1) = #[.int .u8 0, .int .u8 0, .int .u8 0, .int .u8 0, .int .u8 0, .int .u8 0, .int .u8 0, .int .u8 0] := by kernel_rfl
  rw [e] at h
  exact h
/-- A number's eight bytes, the high one first. -/
def b8 (n : Int) : List Int := [n / 72057594037927936 % 256, n / 281474976710656 % 256, n / 1099511627776 % 256, n / 4294967296 % 256, n / 16777216 % 256, n / 65536 % 256, n / 256 % 256, n % 256]
theorem b8_length (n : Int) : (b8 n).length = 8 := rfl
theorem row_bytesI (w : World) (g : Nat) (xs : List Int) {t : TypeId} (h : Blk w g t (arrV .u8 xs)) : BytesI w (some ⟨g, 0, none⟩) xs := fun _ => ⟨_, rfl, fun j hj => by
  rw [Go.WideShapes.add_plain, Nat.zero_add, h.cell]
  simp [arrV, List.getD, List.getElem?_eq_getElem hj]⟩
set_option maxRecDepth 100000 in
theorem number_is (w : World) (n : Int) (hn : -9223372036854775808 ≤ n ∧ n < 9223372036854775808) :
    Calls Tryd.prog 18 #[.int .i64 n] w fun e w' => e = .returned (.slice (some ⟨w.heap.size, 0, none⟩) 8 8) ∧ BytesI w' (some ⟨w.heap.size, 0, none⟩) (b8 n) ∧ w.grownBy w' none := by
  have hm := made8 w
  go_enter Tryd.func18, Tryd.ntmps18
  go_wp2_with fail
  clear hm
  refine wp_loop_rounds 9 ?_
  rw [rounds_succ]
  go_wp2_with fail
  rw [rounds_succ]
  go_wp2_with fail
  rw [rounds_succ]
  go_wp2_with fail
  rw [rounds_succ]
  go_wp2_with fail
  rw [rounds_succ]
  go_wp2_with fail
  rw [rounds_succ]
  go_wp2_with fail
  rw [rounds_succ]
  go_wp2_with fail
  rw [rounds_succ]
  go_wp2_with fail
  rw [rounds_succ]
  go_wp2_with fail
  go_ret
  exact ⟨rfl, row_bytesI _ _ _ (Blk.new w _ _), World.grownBy_alloc _ _ none⟩
end Go.Proofs.YthjcgdcmbedhnaaDoor
