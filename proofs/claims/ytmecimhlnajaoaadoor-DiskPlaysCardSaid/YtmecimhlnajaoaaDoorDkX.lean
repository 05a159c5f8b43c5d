/-
  The document's disk: New.
-/
import Derived.Test.YtmecimhlnajaoaaDoorDkT
namespace Go.Proofs.YtmecimhlnajaoaaDoor
open Go.RowKit Go.Maps

theorem made_bools (m : Nat) : madeCells (List.replicate 1 (Value.bool false)).toArray m = (List.replicate m (Value.bool false)).toArray := by
  apply Array.ext
  · simp [madeCells]
  · intro i h1 h2
    have hm : i % 1 < (List.replicate 1 (Value.bool false)).toArray.size := by simpa using Nat.mod_lt i (show 0 < 1 by decide)
    simp only [madeCells, Array.getElem_map, Array.getElem_range, List.size_toArray, List.length_replicate, List.getElem_toArray, List.getElem_replicate]
    rw [getElem!_pos (List.replicate 1 (Value.bool false)).toArray (i % 1) hm, List.getElem_toArray, List.getElem_replicate]
theorem dirtyC_new (n : Nat) : dirtyC (newS n).wr = List.replicate n (Value.bool false) := by simp [dirtyC, newS]
theorem madeB (n : Nat) (hn : n ≤ 4096) (w : World) : Sem.run Tryd.prog (Instr.makeSlice 33 (.int .i64 (n : Int)) (.int .i64 (n : Int))) w = .ok (.slice (some ⟨w.heap.size, 0, none⟩) n n) (w.alloc (.cells (dirtyC (newS n).wr).toArray 4)) := by
  obtain ⟨i, hi, hz0, hz1, hz2⟩ := info_parts (P := Tryd.prog) (e := 4) (z := .bool false) (size := 1) (bytes := 1) (by kernel_rfl)
  have h := run_make (P := Tryd.prog) w 33 4 i _ Tryd.underlying33 hi hz0 .i64 .i64 (n : Int) (n : Int) (by omega) (Int.le_refl _) (by rw [hz2]; omega) (by omega)
  rw [hz1, Int.toNat_natCast, Nat.mul_one] at h
  rw [dirtyC_new, ← made_bools]
  exact h
theorem blk4 (V : World) (c1 c2 c3 c4 : Array Value) (t1 t2 t3 t4 : TypeId) :
    Blk ((((V.alloc (.cells c1 t1)).alloc (.cells c2 t2)).alloc (.cells c3 t3)).alloc (.cells c4 t4)) V.heap.size t1 c1 ∧
    Blk ((((V.alloc (.cells c1 t1)).alloc (.cells c2 t2)).alloc (.cells c3 t3)).alloc (.cells c4 t4)) (V.heap.size + 1) t2 c2 ∧
    Blk ((((V.alloc (.cells c1 t1)).alloc (.cells c2 t2)).alloc (.cells c3 t3)).alloc (.cells c4 t4)) (V.heap.size + 1 + 1) t3 c3 ∧
    Blk ((((V.alloc (.cells c1 t1)).alloc (.cells c2 t2)).alloc (.cells c3 t3)).alloc (.cells c4 t4)) (V.heap.size + 1 + 1 + 1) t4 c4 := by
  refine ⟨(((Blk.new V t1 c1).alloc _).alloc _).alloc _, ?_, ?_, ?_⟩
  · have h := ((Blk.new (V.alloc (.cells c1 t1)) t2 c2).alloc (.cells c3 t3)).alloc (.cells c4 t4)
    rwa [World.size_alloc] at h
  · have h := (Blk.new ((V.alloc (.cells c1 t1)).alloc (.cells c2 t2)) t3 c3).alloc (.cells c4 t4)
    rwa [World.size_alloc, World.size_alloc] at h
  · have h := Blk.new (((V.alloc (.cells c1 t1)).alloc (.cells c2 t2)).alloc (.cells c3 t3)) t4 c4
    rwa [World.size_alloc, World.size_alloc, World.size_alloc] at h
theorem grown4 (V : World) (o1 o2 o3 o4 : Obj) : V.grownBy ((((V.alloc o1).alloc o2).alloc o3).alloc o4) none :=
  grown_trans (grown_trans (grown_trans (World.grownBy_alloc _ _ none) (World.grownBy_alloc _ _ none)) (World.grownBy_alloc _ _ none)) (World.grownBy_alloc _ _ none)
theorem md_fresh {w : World} {p s u v n : Nat} {M B : Array Value} (hn : 1 ≤ n ∧ n ≤ 4096) (hM : (newS n).cells = M) (hB : (dirtyC (newS n).wr).toArray = B)
    (hp : Blk w p 49 #[.slice (some ⟨s, 0, none⟩) n n, .slice (some ⟨u, 0, none⟩) n n, .slice (some ⟨v, 0, none⟩) n n, .bool false, .int .i64 (-1)])
    (hs : Blk w s 36 M) (hu : Blk w u 36 M) (hv : Blk w v 4 B) (ne : p ≠ s ∧ p ≠ u ∧ p ≠ v ∧ s ≠ u ∧ s ≠ v ∧ u ≠ v) : MdIs w p s u v (newS n) := by
  have hl : (newS n).syn.length = n := by simp [newS]
  have h64 : ∀ r ∈ (newS n).syn, r.length = 64 := fun r hr => by
    obtain ⟨_, rfl⟩ := List.mem_replicate.1 hr
    simp
  refine ⟨by rw [hl]; exact hp, ?_, ⟨(newS n).syn, ?_, rfl, h64, fun i r h => ?_⟩, by rw [hB]; exact hv, by simp [newS], h64, by rw [hl]; exact hn, by simp [newS], ne⟩
  · show Blk w s _ (newS n).cells
    rw [hM]; exact hs
  · show Blk w u _ (newS n).cells
    rw [hM]; exact hu
  · have h : (List.replicate n (none : Option (List Int)))[i]? = some (some r) := h
    rw [List.getElem?_replicate] at h
    split at h <;> simp at h
set_option maxRecDepth 100000 in
set_option maxHeartbeats 1000000 in
theorem md_new (w : World) (n : Nat) (hn : 1 ≤ n ∧ n ≤ 4096) :
    Calls Tryd.prog 12 #[.int .i64 (n : Int)] w fun e w' => w.grownBy w' none ∧ ∃ p s u v, e = .returned (.pointer (some ⟨p, 0, none⟩)) ∧ MdIs w' p s u v (newS n) ∧ w.heap.size ≤ p ∧ w.heap.size ≤ s ∧ w.heap.size ≤ u ∧ w.heap.size ≤ v := by
  have hmk := fun V => dk_made V n hn.2
  have hmb := fun V => madeB n hn.2 V
  obtain ⟨M, hM⟩ : ∃ M, (newS n).cells = M := ⟨_, rfl⟩
  obtain ⟨B, hB⟩ : ∃ B, (dirtyC (newS n).wr).toArray = B := ⟨_, rfl⟩
  rw [hM] at hmk
  rw [hB] at hmb
  have HM := Lib.hid (And.intro hM hB)
  have HK := Lib.hid hn
  clear hM hB hn
  go_enter Tryd.func12, Tryd.ntmps12
  go_wp2_with fail
  have g0 := grown_drew (World.grownBy.refl w none)
  obtain ⟨V2, hV2⟩ : ∃ V2, w.drew = V2 := ⟨_, rfl⟩
  rw [hV2] at g0
  have HG := Lib.hid g0
  clear g0
  refine wp_region_held_drew (S := fun _ => True) (by kernel_rfl) trivial (fun hHeld => ?_)
  rw [hV2]
  refine wpAnyH_take (i := 0) (oi := _) (v := ?vn0) rfl (by kernel_rfl) (by kernel_rfl) (by kernel_rfl) (fun _ _ _ h => h) (Or.inl ⟨by rfl, ?hyn0⟩) (by assumption) ?restn0
  case hyn0 => (intro V hSw; (try dsimp only at hSw); go_simp) <;> with_reducible rfl
  try simp only [Act.put, List.getElem_toArray, List.getElem_cons_succ, List.getElem_cons_zero, List.setIfInBounds_toArray, List.set_cons_zero, List.set_cons_succ]
  refine wpAnyH_take (i := 2) (oi := _) (v := ?vn2) rfl (by kernel_rfl) (by kernel_rfl) (by kernel_rfl) (fun _ _ _ h => h) (Or.inl ⟨by rfl, ?hyn2⟩) (by assumption) ?restn2
  case hyn2 => (intro V hSw; (try dsimp only at hSw); go_simp) <;> with_reducible rfl
  try simp only [Act.put, List.getElem_toArray, List.getElem_cons_succ, List.getElem_cons_zero, List.setIfInBounds_toArray, List.set_cons_zero, List.set_cons_succ]
  refine wpAnyH_take (i := 4) (oi := _) (v := ?vn4) rfl (by kernel_rfl) (by kernel_rfl) (by kernel_rfl) (fun _ _ _ h => h) (Or.inl ⟨by rfl, ?hyn4⟩) (by assumption) ?restn4
  case hyn4 => (intro V hSw; (try dsimp only at hSw); go_simp) <;> with_reducible rfl
  try simp only [Act.put, List.getElem_toArray, List.getElem_cons_succ, List.getElem_cons_zero, List.setIfInBounds_toArray, List.set_cons_zero, List.set_cons_succ]
  refine wpAnyH_ready (rs := [1, 3, 5]) (by kernel_rfl) (by simp) ?_
  refine (AllReadyH.cons (o := _) rfl (fun K9 hK => ?_) (AllReadyH.cons (o := _) rfl (fun K9 hK => ?_) (AllReadyH.cons (o := _) rfl (fun K9 hK => ?_) AllReadyH.nil)))
  · skip
    go_simp
    refine hK.out _ _ trivial (fun hHeld => ?_)
    clear hK K9
    try simp only [Act.put, List.getElem_toArray, List.getElem_cons_succ, List.getElem_cons_zero, List.setIfInBounds_toArray, List.set_cons_zero, List.set_cons_succ]
    refine wpAnyH_ready (rs := [3, 5]) (by kernel_rfl) (by simp) ?_
    refine (AllReadyH.cons (o := _) rfl (fun K9 hK => ?_) (AllReadyH.cons (o := _) rfl (fun K9 hK => ?_) AllReadyH.nil))
    · skip
      go_simp
      refine hK.out _ _ trivial (fun hHeld => ?_)
      clear hK K9
      try simp only [Act.put, List.getElem_toArray, List.getElem_cons_succ, List.getElem_cons_zero, List.setIfInBounds_toArray, List.set_cons_zero, List.set_cons_succ]
      refine wpAnyH_ready (rs := [5]) (by kernel_rfl) (by simp) ?_
      refine (AllReadyH.cons (o := _) rfl (fun K9 hK => ?_) AllReadyH.nil)
      go_simp
      refine hK.out _ _ trivial (fun hHeld => ?_)
      clear hK K9
      try simp only [Act.put, List.getElem_toArray, List.getElem_cons_succ, List.getElem_cons_zero, List.setIfInBounds_toArray, List.set_cons_zero, List.set_cons_succ]
      refine wpAnyH_take (i := 6) (oi := _) (v := ?vn1356) rfl (by kernel_rfl) (by kernel_rfl) (by kernel_rfl) (fun _ _ _ h => h) (Or.inl ⟨by rfl, ?hyn1356⟩) (by assumption) ?restn1356
      case hyn1356 => (intro V hSw; (try dsimp only at hSw); go_simp) <;> with_reducible rfl
      try simp only [Act.put, List.getElem_toArray, List.getElem_cons_succ, List.getElem_cons_zero, List.setIfInBounds_toArray, List.set_cons_zero, List.set_cons_succ]
      refine wpAnyH_ready (rs := [7]) (by kernel_rfl) (by simp) ?_
      refine (AllReadyH.cons (o := _) rfl (fun K9 hK => ?_) AllReadyH.nil)
      go_simp
      refine hK.out _ _ trivial (fun hHeld => ?_)
      clear hK K9
      try simp only [Act.put, List.getElem_toArray, List.getElem_cons_succ, List.getElem_cons_zero, List.setIfInBounds_toArray, List.set_cons_zero, List.set_cons_succ]
      refine wpAnyH_take (i := 8) (oi := _) (v := ?vn1358) rfl (by kernel_rfl) (by kernel_rfl) (by kernel_rfl) (fun _ _ _ h => h) (Or.inl ⟨by rfl, ?hyn1358⟩) (by assumption) ?restn1358
      case hyn1358 => (intro V hSw; (try dsimp only at hSw); go_simp) <;> with_reducible rfl
      try simp only [Act.put, List.getElem_toArray, List.getElem_cons_succ, List.getElem_cons_zero, List.setIfInBounds_toArray, List.set_cons_zero, List.set_cons_succ]
      refine wpAnyH_done (by kernel_rfl) ?_ _
      go_wp2_with fail
      go_ret
      have h4 := blk4 V2 (M) (M) (B) #[.slice (some ⟨V2.heap.size, 0, none⟩) n n, .slice (some ⟨V2.heap.size + 1, 0, none⟩) n n, .slice (some ⟨V2.heap.size + 1 + 1, 0, none⟩) n n, .bool false, .int .i64 (-1)] 36 36 4 49
      exact ⟨grown_trans HG.out (grown4 V2 _ _ _ _), V2.heap.size + 1 + 1 + 1, V2.heap.size, V2.heap.size + 1, V2.heap.size + 1 + 1, rfl, md_fresh HK.out HM.out.1 HM.out.2 h4.2.2.2 h4.1 h4.2.1 h4.2.2.1 (by omega), by have := HG.out.size; omega, by have := HG.out.size; omega, by have := HG.out.size; omega, by have := HG.out.size; omega⟩
    · skip
      go_simp
      refine hK.out _ _ trivial (fun hHeld => ?_)
      clear hK K9
      try simp only [Act.put, List.getElem_toArray, List.getElem_cons_succ, List.getElem_cons_zero, List.setIfInBounds_toArray, List.set_cons_zero, List.set_cons_succ]
      refine wpAnyH_ready (rs := [3]) (by kernel_rfl) (by simp) ?_
      refine (AllReadyH.cons (o := _) rfl (fun K9 hK => ?_) AllReadyH.nil)
      go_simp
      refine hK.out _ _ trivial (fun hHeld => ?_)
      clear hK K9
      try simp only [Act.put, List.getElem_toArray, List.getElem_cons_succ, List.getElem_cons_zero, List.setIfInBounds_toArray, List.set_cons_zero, List.set_cons_succ]
      refine wpAnyH_take (i := 6) (oi := _) (v := ?vn1536) rfl (by kernel_rfl) (by kernel_rfl) (by kernel_rfl) (fun _ _ _ h => h) (Or.inl ⟨by rfl, ?hyn1536⟩) (by assumption) ?restn1536
      case hyn1536 => (intro V hSw; (try dsimp only at hSw); go_simp) <;> with_reducible rfl
      try simp only [Act.put, List.getElem_toArray, List.getElem_cons_succ, List.getElem_cons_zero, List.setIfInBounds_toArray, List.set_cons_zero, List.set_cons_succ]
      refine wpAnyH_ready (rs := [7]) (by kernel_rfl) (by simp) ?_
      refine (AllReadyH.cons (o := _) rfl (fun K9 hK => ?_) AllReadyH.nil)
      go_simp
      refine hK.out _ _ trivial (fun hHeld => ?_)
      clear hK K9
      try simp only [Act.put, List.getElem_toArray, List.getElem_cons_succ, List.getElem_cons_zero, List.setIfInBounds_toArray, List.set_cons_zero, List.set_cons_succ]
      refine wpAnyH_take (i := 8) (oi := _) (v := ?vn1538) rfl (by kernel_rfl) (by kernel_rfl) (by kernel_rfl) (fun _ _ _ h => h) (Or.inl ⟨by rfl, ?hyn1538⟩) (by assumption) ?restn1538
      case hyn1538 => (intro V hSw; (try dsimp only at hSw); go_simp) <;> with_reducible rfl
      try simp only [Act.put, List.getElem_toArray, List.getElem_cons_succ, List.getElem_cons_zero, List.setIfInBounds_toArray, List.set_cons_zero, List.set_cons_succ]
      refine wpAnyH_done (by kernel_rfl) ?_ _
      go_wp2_with fail
      go_ret
      have h4 := blk4 V2 (M) (B) (M) #[.slice (some ⟨V2.heap.size, 0, none⟩) n n, .slice (some ⟨V2.heap.size + 1 + 1, 0, none⟩) n n, .slice (some ⟨V2.heap.size + 1, 0, none⟩) n n, .bool false, .int .i64 (-1)] 36 4 36 49
      exact ⟨grown_trans HG.out (grown4 V2 _ _ _ _), V2.heap.size + 1 + 1 + 1, V2.heap.size, V2.heap.size + 1 + 1, V2.heap.size + 1, rfl, md_fresh HK.out HM.out.1 HM.out.2 h4.2.2.2 h4.1 h4.2.2.1 h4.2.1 (by omega), by have := HG.out.size; omega, by have := HG.out.size; omega, by have := HG.out.size; omega, by have := HG.out.size; omega⟩
  · skip
    go_simp
    refine hK.out _ _ trivial (fun hHeld => ?_)
    clear hK K9
    try simp only [Act.put, List.getElem_toArray, List.getElem_cons_succ, List.getElem_cons_zero, List.setIfInBounds_toArray, List.set_cons_zero, List.set_cons_succ]
    refine wpAnyH_ready (rs := [1, 5]) (by kernel_rfl) (by simp) ?_
    refine (AllReadyH.cons (o := _) rfl (fun K9 hK => ?_) (AllReadyH.cons (o := _) rfl (fun K9 hK => ?_) AllReadyH.nil))
    · skip
      go_simp
      refine hK.out _ _ trivial (fun hHeld => ?_)
      clear hK K9
      try simp only [Act.put, List.getElem_toArray, List.getElem_cons_succ, List.getElem_cons_zero, List.setIfInBounds_toArray, List.set_cons_zero, List.set_cons_succ]
      refine wpAnyH_ready (rs := [5]) (by kernel_rfl) (by simp) ?_
      refine (AllReadyH.cons (o := _) rfl (fun K9 hK => ?_) AllReadyH.nil)
      go_simp
      refine hK.out _ _ trivial (fun hHeld => ?_)
      clear hK K9
      try simp only [Act.put, List.getElem_toArray, List.getElem_cons_succ, List.getElem_cons_zero, List.setIfInBounds_toArray, List.set_cons_zero, List.set_cons_succ]
      refine wpAnyH_take (i := 6) (oi := _) (v := ?vn3156) rfl (by kernel_rfl) (by kernel_rfl) (by kernel_rfl) (fun _ _ _ h => h) (Or.inl ⟨by rfl, ?hyn3156⟩) (by assumption) ?restn3156
      case hyn3156 => (intro V hSw; (try dsimp only at hSw); go_simp) <;> with_reducible rfl
      try simp only [Act.put, List.getElem_toArray, List.getElem_cons_succ, List.getElem_cons_zero, List.setIfInBounds_toArray, List.set_cons_zero, List.set_cons_succ]
      refine wpAnyH_ready (rs := [7]) (by kernel_rfl) (by simp) ?_
      refine (AllReadyH.cons (o := _) rfl (fun K9 hK => ?_) AllReadyH.nil)
      go_simp
      refine hK.out _ _ trivial (fun hHeld => ?_)
      clear hK K9
      try simp only [Act.put, List.getElem_toArray, List.getElem_cons_succ, List.getElem_cons_zero, List.setIfInBounds_toArray, List.set_cons_zero, List.set_cons_succ]
      refine wpAnyH_take (i := 8) (oi := _) (v := ?vn3158) rfl (by kernel_rfl) (by kernel_rfl) (by kernel_rfl) (fun _ _ _ h => h) (Or.inl ⟨by rfl, ?hyn3158⟩) (by assumption) ?restn3158
      case hyn3158 => (intro V hSw; (try dsimp only at hSw); go_simp) <;> with_reducible rfl
      try simp only [Act.put, List.getElem_toArray, List.getElem_cons_succ, List.getElem_cons_zero, List.setIfInBounds_toArray, List.set_cons_zero, List.set_cons_succ]
      refine wpAnyH_done (by kernel_rfl) ?_ _
      go_wp2_with fail
      go_ret
      have h4 := blk4 V2 (M) (M) (B) #[.slice (some ⟨V2.heap.size + 1, 0, none⟩) n n, .slice (some ⟨V2.heap.size, 0, none⟩) n n, .slice (some ⟨V2.heap.size + 1 + 1, 0, none⟩) n n, .bool false, .int .i64 (-1)] 36 36 4 49
      exact ⟨grown_trans HG.out (grown4 V2 _ _ _ _), V2.heap.size + 1 + 1 + 1, V2.heap.size + 1, V2.heap.size, V2.heap.size + 1 + 1, rfl, md_fresh HK.out HM.out.1 HM.out.2 h4.2.2.2 h4.2.1 h4.1 h4.2.2.1 (by omega), by have := HG.out.size; omega, by have := HG.out.size; omega, by have := HG.out.size; omega, by have := HG.out.size; omega⟩
    · skip
      go_simp
      refine hK.out _ _ trivial (fun hHeld => ?_)
      clear hK K9
      try simp only [Act.put, List.getElem_toArray, List.getElem_cons_succ, List.getElem_cons_zero, List.setIfInBounds_toArray, List.set_cons_zero, List.set_cons_succ]
      refine wpAnyH_ready (rs := [1]) (by kernel_rfl) (by simp) ?_
      refine (AllReadyH.cons (o := _) rfl (fun K9 hK => ?_) AllReadyH.nil)
      go_simp
      refine hK.out _ _ trivial (fun hHeld => ?_)
      clear hK K9
      try simp only [Act.put, List.getElem_toArray, List.getElem_cons_succ, List.getElem_cons_zero, List.setIfInBounds_toArray, List.set_cons_zero, List.set_cons_succ]
      refine wpAnyH_take (i := 6) (oi := _) (v := ?vn3516) rfl (by kernel_rfl) (by kernel_rfl) (by kernel_rfl) (fun _ _ _ h => h) (Or.inl ⟨by rfl, ?hyn3516⟩) (by assumption) ?restn3516
      case hyn3516 => (intro V hSw; (try dsimp only at hSw); go_simp) <;> with_reducible rfl
      try simp only [Act.put, List.getElem_toArray, List.getElem_cons_succ, List.getElem_cons_zero, List.setIfInBounds_toArray, List.set_cons_zero, List.set_cons_succ]
      refine wpAnyH_ready (rs := [7]) (by kernel_rfl) (by simp) ?_
      refine (AllReadyH.cons (o := _) rfl (fun K9 hK => ?_) AllReadyH.nil)
      go_simp
      refine hK.out _ _ trivial (fun hHeld => ?_)
      clear hK K9
      try simp only [Act.put, List.getElem_toArray, List.getElem_cons_succ, List.getElem_cons_zero, List.setIfInBounds_toArray, List.set_cons_zero, List.set_cons_succ]
      refine wpAnyH_take (i := 8) (oi := _) (v := ?vn3518) rfl (by kernel_rfl) (by kernel_rfl) (by kernel_rfl) (fun _ _ _ h => h) (Or.inl ⟨by rfl, ?hyn3518⟩) (by assumption) ?restn3518
      case hyn3518 => (intro V hSw; (try dsimp only at hSw); go_simp) <;> with_reducible rfl
      try simp only [Act.put, List.getElem_toArray, List.getElem_cons_succ, List.getElem_cons_zero, List.setIfInBounds_toArray, List.set_cons_zero, List.set_cons_succ]
      refine wpAnyH_done (by kernel_rfl) ?_ _
      go_wp2_with fail
      go_ret
      have h4 := blk4 V2 (M) (B) (M) #[.slice (some ⟨V2.heap.size + 1 + 1, 0, none⟩) n n, .slice (some ⟨V2.heap.size, 0, none⟩) n n, .slice (some ⟨V2.heap.size + 1, 0, none⟩) n n, .bool false, .int .i64 (-1)] 36 4 36 49
      exact ⟨grown_trans HG.out (grown4 V2 _ _ _ _), V2.heap.size + 1 + 1 + 1, V2.heap.size + 1 + 1, V2.heap.size, V2.heap.size + 1, rfl, md_fresh HK.out HM.out.1 HM.out.2 h4.2.2.2 h4.2.2.1 h4.1 h4.2.1 (by omega), by have := HG.out.size; omega, by have := HG.out.size; omega, by have := HG.out.size; omega, by have := HG.out.size; omega⟩
  · skip
    go_simp
    refine hK.out _ _ trivial (fun hHeld => ?_)
    clear hK K9
    try simp only [Act.put, List.getElem_toArray, List.getElem_cons_succ, List.getElem_cons_zero, List.setIfInBounds_toArray, List.set_cons_zero, List.set_cons_succ]
    refine wpAnyH_ready (rs := [1, 3]) (by kernel_rfl) (by simp) ?_
    refine (AllReadyH.cons (o := _) rfl (fun K9 hK => ?_) (AllReadyH.cons (o := _) rfl (fun K9 hK => ?_) AllReadyH.nil))
    · skip
      go_simp
      refine hK.out _ _ trivial (fun hHeld => ?_)
      clear hK K9
      try simp only [Act.put, List.getElem_toArray, List.getElem_cons_succ, List.getElem_cons_zero, List.setIfInBounds_toArray, List.set_cons_zero, List.set_cons_succ]
      refine wpAnyH_ready (rs := [3]) (by kernel_rfl) (by simp) ?_
      refine (AllReadyH.cons (o := _) rfl (fun K9 hK => ?_) AllReadyH.nil)
      go_simp
      refine hK.out _ _ trivial (fun hHeld => ?_)
      clear hK K9
      try simp only [Act.put, List.getElem_toArray, List.getElem_cons_succ, List.getElem_cons_zero, List.setIfInBounds_toArray, List.set_cons_zero, List.set_cons_succ]
      refine wpAnyH_take (i := 6) (oi := _) (v := ?vn5136) rfl (by kernel_rfl) (by kernel_rfl) (by kernel_rfl) (fun _ _ _ h => h) (Or.inl ⟨by rfl, ?hyn5136⟩) (by assumption) ?restn5136
      case hyn5136 => (intro V hSw; (try dsimp only at hSw); go_simp) <;> with_reducible rfl
      try simp only [Act.put, List.getElem_toArray, List.getElem_cons_succ, List.getElem_cons_zero, List.setIfInBounds_toArray, List.set_cons_zero, List.set_cons_succ]
      refine wpAnyH_ready (rs := [7]) (by kernel_rfl) (by simp) ?_
      refine (AllReadyH.cons (o := _) rfl (fun K9 hK => ?_) AllReadyH.nil)
      go_simp
      refine hK.out _ _ trivial (fun hHeld => ?_)
      clear hK K9
      try simp only [Act.put, List.getElem_toArray, List.getElem_cons_succ, List.getElem_cons_zero, List.setIfInBounds_toArray, List.set_cons_zero, List.set_cons_succ]
      refine wpAnyH_take (i := 8) (oi := _) (v := ?vn5138) rfl (by kernel_rfl) (by kernel_rfl) (by kernel_rfl) (fun _ _ _ h => h) (Or.inl ⟨by rfl, ?hyn5138⟩) (by assumption) ?restn5138
      case hyn5138 => (intro V hSw; (try dsimp only at hSw); go_simp) <;> with_reducible rfl
      try simp only [Act.put, List.getElem_toArray, List.getElem_cons_succ, List.getElem_cons_zero, List.setIfInBounds_toArray, List.set_cons_zero, List.set_cons_succ]
      refine wpAnyH_done (by kernel_rfl) ?_ _
      go_wp2_with fail
      go_ret
      have h4 := blk4 V2 (B) (M) (M) #[.slice (some ⟨V2.heap.size + 1, 0, none⟩) n n, .slice (some ⟨V2.heap.size + 1 + 1, 0, none⟩) n n, .slice (some ⟨V2.heap.size, 0, none⟩) n n, .bool false, .int .i64 (-1)] 4 36 36 49
      exact ⟨grown_trans HG.out (grown4 V2 _ _ _ _), V2.heap.size + 1 + 1 + 1, V2.heap.size + 1, V2.heap.size + 1 + 1, V2.heap.size, rfl, md_fresh HK.out HM.out.1 HM.out.2 h4.2.2.2 h4.2.1 h4.2.2.1 h4.1 (by omega), by have := HG.out.size; omega, by have := HG.out.size; omega, by have := HG.out.size; omega, by have := HG.out.size; omega⟩
    · skip
      go_simp
      refine hK.out _ _ trivial (fun hHeld => ?_)
      clear hK K9
      try simp only [Act.put, List.getElem_toArray, List.getElem_cons_succ, List.getElem_cons_zero, List.setIfInBounds_toArray, List.set_cons_zero, List.set_cons_succ]
      refine wpAnyH_ready (rs := [1]) (by kernel_rfl) (by simp) ?_
      refine (AllReadyH.cons (o := _) rfl (fun K9 hK => ?_) AllReadyH.nil)
      go_simp
      refine hK.out _ _ trivial (fun hHeld => ?_)
      clear hK K9
      try simp only [Act.put, List.getElem_toArray, List.getElem_cons_succ, List.getElem_cons_zero, List.setIfInBounds_toArray, List.set_cons_zero, List.set_cons_succ]
      refine wpAnyH_take (i := 6) (oi := _) (v := ?vn5316) rfl (by kernel_rfl) (by kernel_rfl) (by kernel_rfl) (fun _ _ _ h => h) (Or.inl ⟨by rfl, ?hyn5316⟩) (by assumption) ?restn5316
      case hyn5316 => (intro V hSw; (try dsimp only at hSw); go_simp) <;> with_reducible rfl
      try simp only [Act.put, List.getElem_toArray, List.getElem_cons_succ, List.getElem_cons_zero, List.setIfInBounds_toArray, List.set_cons_zero, List.set_cons_succ]
      refine wpAnyH_ready (rs := [7]) (by kernel_rfl) (by simp) ?_
      refine (AllReadyH.cons (o := _) rfl (fun K9 hK => ?_) AllReadyH.nil)
      go_simp
      refine hK.out _ _ trivial (fun hHeld => ?_)
      clear hK K9
      try simp only [Act.put, List.getElem_toArray, List.getElem_cons_succ, List.getElem_cons_zero, List.setIfInBounds_toArray, List.set_cons_zero, List.set_cons_succ]
      refine wpAnyH_take (i := 8) (oi := _) (v := ?vn5318) rfl (by kernel_rfl) (by kernel_rfl) (by kernel_rfl) (fun _ _ _ h => h) (Or.inl ⟨by rfl, ?hyn5318⟩) (by assumption) ?restn5318
      case hyn5318 => (intro V hSw; (try dsimp only at hSw); go_simp) <;> with_reducible rfl
      try simp only [Act.put, List.getElem_toArray, List.getElem_cons_succ, List.getElem_cons_zero, List.setIfInBounds_toArray, List.set_cons_zero, List.set_cons_succ]
      refine wpAnyH_done (by kernel_rfl) ?_ _
      go_wp2_with fail
      go_ret
      have h4 := blk4 V2 (B) (M) (M) #[.slice (some ⟨V2.heap.size + 1 + 1, 0, none⟩) n n, .slice (some ⟨V2.heap.size + 1, 0, none⟩) n n, .slice (some ⟨V2.heap.size, 0, none⟩) n n, .bool false, .int .i64 (-1)] 4 36 36 49
      exact ⟨grown_trans HG.out (grown4 V2 _ _ _ _), V2.heap.size + 1 + 1 + 1, V2.heap.size + 1 + 1, V2.heap.size + 1, V2.heap.size, rfl, md_fresh HK.out HM.out.1 HM.out.2 h4.2.2.2 h4.2.2.1 h4.2.1 h4.1 (by omega), by have := HG.out.size; omega, by have := HG.out.size; omega, by have := HG.out.size; omega, by have := HG.out.size; omega⟩
end Go.Proofs.YtmecimhlnajaoaaDoor
