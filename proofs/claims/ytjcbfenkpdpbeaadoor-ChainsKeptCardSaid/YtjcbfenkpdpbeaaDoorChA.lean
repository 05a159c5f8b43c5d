/-
  chains.small, chains.Secret.
-/
import Derived.Deep.RegionHeld3
import Derived.Test.YtjcbfenkpdpbeaaDoorCh
import Derived.Test.YtjcbfenkpdpbeaaDoorRw
namespace Go.Proofs.YtjcbfenkpdpbeaaDoor
open Go.RowKit

theorem small_is (w : World) (n : Int) : Calls Tryd.prog 27 #[.int .i64 n] w fun e w' => e = .returned (.slice (some ⟨w.heap.size, 0, none⟩) 1 1) ∧ w' = w.alloc (.cells #[.int .u8 (n % 256)] 5) := by
  go_enter Tryd.func27, Tryd.ntmps27
  go_wp2_with fail
  go_ret
  exact ⟨rfl, rfl⟩
/-- A new row of slices that hold these bytes. -/
theorem parts_new (w : World) (t : TypeId) (vs : Array Value) (ps : List (List Int)) (h : ∀ j, j < ps.length → ∃ B m c, vs[j]? = some (.slice B m c) ∧ (ps.getD j []).length = m ∧ m ≤ c ∧ BytesI (w.alloc (.cells vs t)) B (ps.getD j [])) :
    PartsI (w.alloc (.cells vs t)) (some ⟨w.heap.size, 0, none⟩) ps := fun j hj => by
  obtain ⟨B, m, c, h1, h2, h3, h4⟩ := h j hj
  exact ⟨_, B, m, c, rfl, by rw [add_none, Nat.zero_add, (Blk.new w t vs).cell]; exact h1, h2, h3, h4⟩
theorem bytes_blk {w : World} {g : Nat} {t : TypeId} {l : List Int} (h : Blk w g t (arrV .u8 l)) : BytesI w (some ⟨g, 0, none⟩) l := BytesI.blk h (fun j hj => by rw [Nat.zero_add]; exact ⟨hj, rfl⟩)
theorem info16 : (Tryd.prog.info? 23).map (·.size) = some 16 := by kernel_rfl
theorem z16run (w : World) : Sem.run Tryd.prog (zeroValue 23) w = .ok (.agg (arrV .u8 (List.replicate 16 0))) w := zrun w (by kernel_rfl)
theorem dig_slice (w : World) (b : Nat) : Sem.run Tryd.prog (Instr.sliceAt 23 (.pointer (some ⟨b, 0, none⟩)) none none none) w = .ok (.slice (some ⟨b, 0, none⟩) 16 16) w :=
  slice_all (P := Tryd.prog) (w := w) (b := b) (o := 0) (t := 23) Tryd.underlying23 (by kernel_rfl)

set_option maxRecDepth 100000 in
set_option maxHeartbeats 2000000 in
theorem secret_is (w : World) (hR : Rounds w) (seed : List Int) (hs : seed.length = 16) (lf i : Int) :
    Calls Tryd.prog 11 #[.agg (arrV .u8 seed), .int .i64 lf, .int .i64 i] w fun e w' => e = .returned (.agg (arrV .u8 (secC seed lf i))) ∧ w.grownBy w' none := by
  obtain ⟨Z16, hZ16⟩ : ∃ Z, Z = arrV .u8 (List.replicate 16 0) := ⟨_, rfl⟩
  have hz16 : ∀ w, Sem.run Tryd.prog (zeroValue 23) w = .ok (.agg Z16) w := fun w => by rw [hZ16]; exact z16run w
  have hZs : Z16.size = 16 := by rw [hZ16]; rfl
  obtain ⟨ds, hds⟩ : ∃ ds, ds = arrV .u8 seed := ⟨_, rfl⟩
  rw [← hds]
  have HD := Lib.hid (And.intro hds (And.intro hs hZs))
  have hs' : seed.length = 16 := hs
  have hps : ∀ p ∈ [seed, [lf % 256], [i % 256]], p.length ≤ 65536 := by
    intro p hp
    have : p.length = 16 ∨ p.length = 1 := by
      simp only [List.mem_cons, List.not_mem_nil, or_false] at hp
      rcases hp with rfl | rfl | rfl
      · exact .inl hs
      · exact .inr rfl
      · exact .inr rfl
    omega
  have HR := Lib.hid hR
  have hsl := dig_slice
  clear hZ16 hZs hds hs hR
  go_enter Tryd.func11, Tryd.ntmps11
  go_wp2_with fail
  obtain ⟨w0, hw0⟩ : ∃ w0, w0 = (w.alloc (.cells ds 23)).alloc (.cells Z16 23) := ⟨_, rfl⟩
  rw [← hw0]
  have s0 : w0.heap.size = w.heap.size + 2 := by rw [hw0]; simp
  have HB0 := Lib.hid (show Blk w0 w.heap.size 23 ds by rw [hw0]; exact (Blk.new w _ ds).alloc _)
  have HZ0 := Lib.hid (show Blk w0 (w.heap.size + 1) 23 Z16 by rw [hw0]; have := Blk.new (w.alloc (.cells ds 23)) 23 Z16; rwa [World.size_alloc] at this)
  have HG0 := Lib.hid (show w.grownBy w0 none by rw [hw0]; exact grown_trans (World.grownBy_alloc _ _ none) (World.grownBy_alloc _ _ none))
  clear hw0
  have HS0 := Lib.hid s0
  obtain ⟨c6, hc6⟩ : ∃ c6, c6 = arrV .u8 (secC seed lf i) := ⟨_, rfl⟩
  have hs16 : c6.size = 16 := by rw [hc6, arr_size]; exact (secC_dig _ _ _).1
  have HS6 := Lib.hid (And.intro hs16 (And.intro (show (c6.all fun x => x.oneCell') = true by rw [hc6]; exact arr_one _ _) hc6))
  obtain ⟨l6, hl6⟩ : ∃ l, l = c6.toList := ⟨_, rfl⟩
  have hl16 : l6.length = 16 := by rw [hl6, Array.length_toList, hs16]
  have hi6 : (Tryd.prog.info? 23).map (·.size) = some l6.length := by rw [hl16]; exact info16
  have ho6 : ∀ v ∈ l6, v.oneCell' = true := by
    rw [hl6, hc6]; simp [Value.oneCell']
  have HLE := Lib.hid hl6
  have HL6 := Lib.hid (show arrV .u8 (ofS 1 [seed, [lf % 256], [i % 256]]) = l6.toArray by rw [hl6, Array.toArray_toList, hc6, secC])
  have W1 : w0.grownBy (w0.drew.alloc (.cells #[.int .u8 (lf % 256)] 5)) none := grown_trans (grown_drew (World.grownBy.refl w0 none)) (World.grownBy_alloc _ _ none)
  have W2 := grown_trans W1 (World.grownBy_alloc _ (.cells #[.int .u8 (i % 256)] 5) none)
  have W3 := grown_trans W2 (World.grownBy_alloc _ (.cells #[.slice (some ⟨w.heap.size, 0, none⟩) 16 16, .slice (some ⟨w0.heap.size, 0, none⟩) 1 1, .slice (some ⟨w0.heap.size + 1, 0, none⟩) 1 1] 56) none)
  have HP := Lib.hid (show PartsI (((w0.drew.alloc (.cells #[.int .u8 (lf % 256)] 5)).alloc (.cells #[.int .u8 (i % 256)] 5)).alloc (.cells #[.slice (some ⟨w.heap.size, 0, none⟩) 16 16, .slice (some ⟨w0.heap.size, 0, none⟩) 1 1, .slice (some ⟨w0.heap.size + 1, 0, none⟩) 1 1] 56)) (some ⟨w0.heap.size + 2, 0, none⟩) [seed, [lf % 256], [i % 256]] from by
    have := parts_new ((w0.drew.alloc (.cells #[.int .u8 (lf % 256)] 5)).alloc (.cells #[.int .u8 (i % 256)] 5)) 56 #[.slice (some ⟨w.heap.size, 0, none⟩) 16 16, .slice (some ⟨w0.heap.size, 0, none⟩) 1 1, .slice (some ⟨w0.heap.size + 1, 0, none⟩) 1 1] [seed, [lf % 256], [i % 256]] (fun j hj => by
      have : j = 0 ∨ j = 1 ∨ j = 2 := by simp at hj; omega
      rcases this with rfl | rfl | rfl
      · exact ⟨_, 16, 16, rfl, hs', Nat.le_refl _, bytes_blk (t := 23) (show Blk _ w.heap.size 23 (arrV .u8 seed) by rw [← HD.out.1]; exact HB0.out.grown W3 (by simp))⟩
      · exact ⟨_, 1, 1, rfl, rfl, Nat.le_refl _, bytes_blk (t := 5) ((((Blk.new w0.drew 5 (arrV .u8 [lf % 256])).alloc _).alloc _))⟩
      · exact ⟨_, 1, 1, rfl, rfl, Nat.le_refl _, bytes_blk (t := 5) (by have := (Blk.new (w0.drew.alloc (.cells #[.int .u8 (lf % 256)] 5)) 5 (arrV .u8 [i % 256])); rw [World.size_alloc] at this; exact this.alloc _)⟩)
    simpa using this)
  have HW3 := Lib.hid (And.intro W3 (grown_trans HG0.out W3))
  have hT : w0.drew.there (w.heap.size + 1) 0 16 := there_blk HZ0.out.drew (by rw [HD.out.2.2]; exact Nat.le_refl _)
  clear s0 hs16 hl6 W1 W2 W3
  go_region_held3 (fun W => W.there (w.heap.size + 1) 0 16) (first | assumption | (refine there_alloc ?_ _; assumption) | (refine World.there_setCells ?_ _ _ _; assumption))
    ((first
      | (go_at_call 27; refine (small_is _ _).mono ?_; rintro e w' ⟨rfl, rfl⟩)
      | (go_at_call 26; refine (of_is _ (HR.out.grown HW3.out.2 (by simp)) 1 _ 3 3 [seed, [lf % 256], [i % 256]] rfl HP.out (by omega) hps).mono ?_; rintro e w9 ⟨rfl, hk9⟩; rw [HL6.out]; have hT9 := there_grown (by assumption) hk9)))
  have HK9 := Lib.hid (grown_trans HW3.out.2 hk9)
  have HB9 := Lib.hid ((HZ0.out.grown HW3.out.1 (by simp)).grown hk9 (by simp))
  have HE := Lib.hid (show w9.setCells (w.heap.size + 1) 0 l6 = w9.setRow (w.heap.size + 1) c6 by
    rw [HLE.out]
    exact setCells_row (P := Tryd.prog) HB9.out (by rw [HS6.out.1]; exact info16) (by rw [HD.out.2.2, HS6.out.1]) HS6.out.2.1)
  rw [HE.out]
  go_wp2_with fail
  refine bodyPost_ret (results_cell rfl _ _ _ ⟨w.heap.size + 1, 0, none⟩ (.agg c6) rfl (run_loadVar_row _ (w.heap.size + 1) 23 23 c6 (0, 0) _ (HB9.out.row c6) Tryd.underlying23 rfl (by rw [HS6.out.1]; exact info16))) rfl ?_
  exact ⟨by rw [HS6.out.2.2], grown_row HK9.out (.inl (Nat.le_succ _)) c6⟩
end Go.Proofs.YtjcbfenkpdpbeaaDoor
