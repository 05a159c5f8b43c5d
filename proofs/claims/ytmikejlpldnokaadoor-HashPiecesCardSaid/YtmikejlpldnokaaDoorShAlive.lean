/-
  The chapter's example: the sum of "abc".
-/
import Derived.Test.YtmikejlpldnokaaDoorSh8
namespace Go.Proofs.YtmikejlpldnokaaDoor
open Go.RowKit

theorem take4 {l : List Int} {a b c d : Int} (h : l.take 4 = [a, b, c, d]) : l.getD 0 0 = a ∧ l.getD 1 0 = b ∧ l.getD 2 0 = c ∧ l.getD 3 0 = d := by
  match l, h with
  | x0 :: x1 :: x2 :: x3 :: r, h =>
    simp at h
    obtain ⟨rfl, rfl, rfl, rfl⟩ := h
    exact ⟨rfl, rfl, rfl, rfl⟩
theorem hash_abc : (hashS [97, 98, 99]).take 4 = [186, 120, 22, 191] := by kernel_rfl

set_option maxRecDepth 100000 in
set_option maxHeartbeats 1000000 in
theorem alive_is (w : World) (hR : Rounds w) : Calls Tryd.prog 9 #[] w fun e w' => e = .returned (.bool true) ∧ w.grownBy w' none := by
  have HR := Lib.hid hR
  clear hR
  have hcv : Sem.run Tryd.prog (convert 22 22 (.slice (some ⟨w.heap.size, 0, none⟩) 3 3)) (w.alloc (.cells #[.int .u8 97, .int .u8 98, .int .u8 99] 5)) = .ok (.slice (some ⟨w.heap.size, 0, none⟩) 3 3) (w.alloc (.cells #[.int .u8 97, .int .u8 98, .int .u8 99] 5 (3, 4))) :=
    Lib.run_convert_bytes_const (P := Tryd.prog) w 22 5 #[.int .u8 97, .int .u8 98, .int .u8 99] 3 3 Tryd.underlying22 Tryd.underlying5
  go_enter Tryd.func9, Tryd.ntmps9
  go_wp2_with fail
  clear hcv
  have hc0 := fun j => World.cell?_alloc_mark w #[.int .u8 97, .int .u8 98, .int .u8 99] 5 (3, 4) j
  have HG := Lib.hid (World.grownBy_alloc w (.cells #[.int .u8 97, .int .u8 98, .int .u8 99] 5 (3, 4)) none)
  have HL := Lib.hid (show w.heap.size < (w.alloc (.cells #[.int .u8 97, .int .u8 98, .int .u8 99] 5 (3, 4))).heap.size by simp)
  generalize w.alloc (.cells #[.int .u8 97, .int .u8 98, .int .u8 99] 5 (3, 4)) = w0 at *
  refine (sumf_is w0 (HR.out.grown HG.out (by simp)) (some ⟨w.heap.size, 0, none⟩) 3 3 [97, 98, 99] rfl (fun _ => ⟨_, rfl, fun j hj => by
    rw [show (⟨w.heap.size, 0, none⟩ : Addr).add j = ⟨w.heap.size, j, none⟩ by have := add_none w.heap.size 0 j; rwa [Nat.zero_add] at this, hc0 j]
    have : j = 0 ∨ j = 1 ∨ j = 2 := by simp at hj; omega
    rcases this with rfl | rfl | rfl <;> rfl⟩) (fun ad e _ => by obtain rfl := Option.some.inj e; exact HL.out) (Nat.le_refl _) (by omega)).mono ?_
  rintro e w1 ⟨rfl, hk1⟩
  obtain ⟨ds, hds⟩ : ∃ ds, ds = arrV .u8 (hashS [97, 98, 99]) := ⟨_, rfl⟩
  rw [← hds]
  have hsz : ds.size = 32 := by rw [hds, arr_size, hashS_length]
  have HI3 := Lib.hid (show (Tryd.prog.info? 25).map (·.size) = some ds.size by rw [hsz]; exact info32)
  have HS3 := Lib.hid (And.intro hsz (show (ds.all fun x => x.oneCell') = true by rw [hds]; exact arr_one _ _))
  have hB2 : ∀ o t, Blk ((w1.alloc (.cells o t)).setRow w1.heap.size ds) w1.heap.size t ds := fun o t => Blk.row (Blk.new w1 t o) ds
  obtain ⟨g0, g1, g2, g3⟩ := take4 hash_abc
  have cell : ∀ i, i < 4 → ∀ o t, ((w1.alloc (.cells o t)).setRow w1.heap.size ds).cell? ⟨w1.heap.size, i, none⟩ = some (.int .u8 ((hashS [97, 98, 99]).getD i 0)) := fun i hi o t => by
    rw [(hB2 o t).cell, hds]; exact arr_get (by rw [hashS_length]; omega)
  have c0 := cell 0 (by omega)
  have c1 := cell 1 (by omega)
  have c2 := cell 2 (by omega)
  have c3 := cell 3 (by omega)
  rw [g0] at c0
  rw [g1] at c1
  rw [g2] at c2
  rw [g3] at c3
  have HK := Lib.hid hk1
  clear hds hsz g0 g1 g2 g3 cell hB2 hk1
  go_wp2_with (refine wpList_store_row rfl 25 _ _ rfl w1.heap.size ds rfl rfl 25 _ (heap_alloc_new w1 _) HI3.out (by rw [HS3.out.1]; simp) HS3.out.2 ?_)
  go_ret
  exact ⟨rfl, grown_row (grown_trans (grown_trans HG.out HK.out) (World.grownBy_alloc w1 _ none)) (.inl (grown_trans HG.out HK.out).size) ds⟩
end Go.Proofs.YtmikejlpldnokaaDoor
