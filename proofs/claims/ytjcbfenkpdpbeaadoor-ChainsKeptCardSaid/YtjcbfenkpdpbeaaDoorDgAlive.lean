/-
  The chapter's example of layer 3.
-/
import Derived.Test.YtjcbfenkpdpbeaaDoorDg3
import Derived.Test.YtjcbfenkpdpbeaaDoorArrEq
namespace Go.Proofs.YtjcbfenkpdpbeaaDoor
open Go.RowKit

theorem zero_run3 {P : Program} {t : TypeId} {v : Value} (w : World) (h : (P.info? t).bind (·.zero) = some v) : Sem.run P (zeroValue t) w = .ok v w := by
  cases hq : P.info? t with
  | none => simp [hq] at h
  | some i =>
    have h1 : i.zero = some v := by simpa [hq] using h
    simp [zeroValue, typeInfo, hq, h1]
theorem eqD (w : World) (l1 l2 : List Int) (h1 : l1.length = 16) (h2 : l2.length = 16) : Sem.run Tryd.prog (Op.equalIn 10000 23 (.agg (arrV .u8 l1)) (.agg (arrV .u8 l2))) w = .ok (decide (l1 = l2)) w :=
  eq_arr w 9998 Tryd.underlying23 (by kernel_rfl) Tryd.underlying5 (by kernel_rfl) (by kernel_rfl) l1 l2 h1 h2

set_option maxRecDepth 100000 in
set_option maxHeartbeats 1000000 in
theorem alive_is (w : World) : Calls Tryd.prog 9 #[] w fun e w' => e = .returned (.bool true) ∧ w.grownBy w' none := by
  obtain ⟨zs, hzs⟩ : ∃ zs, zs = arrV .u8 (List.replicate 16 0) := ⟨_, rfl⟩
  have hz : ∀ w, Sem.run Tryd.prog (zeroValue 23) w = .ok (.agg zs) w := fun w => by rw [hzs]; exact zero_run3 w (by kernel_rfl)
  have HZ := Lib.hid hzs
  clear hzs
  go_enter Tryd.func9, Tryd.ntmps9
  go_wp2_with fail
  rw [HZ.out]
  refine (digits_is w (List.replicate 16 0) (by simp) (fun z hz => by have := List.eq_of_mem_replicate hz; omega)).mono ?_
  rintro e w1 ⟨g, cap, rfl, hc, _, hk⟩
  have c0 := hc 0 (by omega)
  have c1 := hc 63 (by omega)
  have c2 := hc 64 (by omega)
  have c3 := hc 65 (by omega)
  have c4 := hc 67 (by omega)
  rw [show (digitsS (List.replicate 16 0)).getD 0 0 = 0 by kernel_rfl] at c0
  rw [show (digitsS (List.replicate 16 0)).getD 63 0 = 0 by kernel_rfl] at c1
  rw [show (digitsS (List.replicate 16 0)).getD 64 0 = 3 by kernel_rfl] at c2
  rw [show (digitsS (List.replicate 16 0)).getD 65 0 = 0 by kernel_rfl] at c3
  rw [show (digitsS (List.replicate 16 0)).getD 67 0 = 0 by kernel_rfl] at c4
  clear hc
  go_wp2_with fail
  go_ret
  exact ⟨rfl, hk⟩

end Go.Proofs.YtjcbfenkpdpbeaaDoor
