/-
  The document's own: Plain.
-/
import Derived.Test.YtonkdcbmmdhjgaaGreatDoorScSm
namespace Go.Proofs.YtonkdcbmmdhjgaaGreatDoor
open Go.RowKit Go.Shelf

attribute [local go_sem] Oper.semAt_some

/-- An op with what belongs to its kind alone. -/
def plainM (o : OpM) : OpM where
  v := plainS o.v
  A1 := if 112 ∈ (shapeS o.v.kind).2 then o.A1 else none
  c1 := if 112 ∈ (shapeS o.v.kind).2 then o.c1 else 0
  A2 := if 98 ∈ (shapeS o.v.kind).2 then o.A2 else none
  c2 := if 98 ∈ (shapeS o.v.kind).2 then o.c2 else 0
  A3 := if 120 ∈ (shapeS o.v.kind).2 then o.A3 else none
  c3 := if 120 ∈ (shapeS o.v.kind).2 then o.c3 else 0
theorem results_cellS {fn : Func} {s : Tmp} {t : TypeId} (h : fn.results = #[.cell s t]) (tmps : Array Value) (P : Program) (w : World) (p : Addr) (v : Value)
    (hp : tmps.getD s undef = .pointer (some p)) (hl : (loadVar t p).run P w = .ok v w) : (results fn tmps).run P w = .ok v w := by
  have hq : tmps[s]?.getD undef = .pointer (some p) := by simpa using hp
  simp [results, h, hq, asAddr, hl]
theorem load_sixR {w : World} {g : Nat} {a b c : Int} {A1 A2 A3 : Option Addr} {n1 n2 n3 c1 c2 c3 : Nat} (h : Blk w g 31 #[.int .i64 a, .int .i64 b, .int .i64 c, .slice A1 n1 c1, .slice A2 n2 c2, .slice A3 n3 c3]) : (loadVar 31 ⟨g, 0, none⟩).run Tryz.prog w = .ok (.agg #[.int .i64 a, .int .i64 b, .int .i64 c, .slice A1 n1 c1, .slice A2 n2 c2, .slice A3 n3 c3]) w := by
  have h0 : w.cell? ⟨g, 0, none⟩ = some (.int .i64 a) := h.cell 0
  have h1 : w.cell? ⟨g, 1, none⟩ = some (.int .i64 b) := h.cell 1
  have h2 : w.cell? ⟨g, 2, none⟩ = some (.int .i64 c) := h.cell 2
  have h3 : w.cell? ⟨g, 3, none⟩ = some (.slice A1 n1 c1) := h.cell 3
  have h4 : w.cell? ⟨g, 4, none⟩ = some (.slice A2 n2 c2) := h.cell 4
  have h5 : w.cell? ⟨g, 5, none⟩ = some (.slice A3 n3 c3) := h.cell 5
  go_simp
set_option maxRecDepth 100000 in
set_option maxHeartbeats 2000000 in
theorem plain_t1 (w : World) (nd nn : Int) (n1 n2 n3 : Nat) (A1 A2 A3 : Option Addr) (c1 c2 c3 : Nat) :
    Calls Tryz.prog 6 #[.agg #[.int .i64 1, .int .i64 nd, .int .i64 nn, .slice A1 n1 c1, .slice A2 n2 c2, .slice A3 n3 c3]] w fun e w' => e = .returned (.agg #[.int .i64 1, .int .i64 0, .int .i64 nn, .slice none 0 0, .slice none 0 0, .slice none 0 0]) ∧ w.grownBy w' none := by
  go_enter Tryz.func6, Tryz.ntmps6
  go_wp2_with fail
  have h := Blk.new (w.alloc (.cells #[.int .i64 1, .int .i64 nd, .int .i64 nn, .slice A1 n1 c1, .slice A2 n2 c2, .slice A3 n3 c3] 31)) 31 #[.int .i64 1, .int .i64 0, .int .i64 nn, .slice none 0 0, .slice none 0 0, .slice none 0 0]
  rw [World.size_alloc] at h
  refine bodyPost_ret (results_cellS rfl _ _ _ ⟨w.heap.size + 1, 0, none⟩ _ rfl (load_sixR (h.alloc _))) rfl ?_
  exact ⟨rfl, grown_trans (grown_trans (World.grownBy_alloc w _ none) (World.grownBy_alloc _ _ none)) (World.grownBy_alloc _ _ none)⟩
set_option maxRecDepth 100000 in
set_option maxHeartbeats 2000000 in
theorem plain_t2 (w : World) (nd nn : Int) (n1 n2 n3 : Nat) (A1 A2 A3 : Option Addr) (c1 c2 c3 : Nat) :
    Calls Tryz.prog 6 #[.agg #[.int .i64 2, .int .i64 nd, .int .i64 nn, .slice A1 n1 c1, .slice A2 n2 c2, .slice A3 n3 c3]] w fun e w' => e = .returned (.agg #[.int .i64 2, .int .i64 0, .int .i64 nn, .slice none 0 0, .slice none 0 0, .slice none 0 0]) ∧ w.grownBy w' none := by
  go_enter Tryz.func6, Tryz.ntmps6
  go_wp2_with fail
  have h := Blk.new (w.alloc (.cells #[.int .i64 2, .int .i64 nd, .int .i64 nn, .slice A1 n1 c1, .slice A2 n2 c2, .slice A3 n3 c3] 31)) 31 #[.int .i64 2, .int .i64 0, .int .i64 nn, .slice none 0 0, .slice none 0 0, .slice none 0 0]
  rw [World.size_alloc] at h
  refine bodyPost_ret (results_cellS rfl _ _ _ ⟨w.heap.size + 1, 0, none⟩ _ rfl (load_sixR (h.alloc _))) rfl ?_
  exact ⟨rfl, grown_trans (grown_trans (World.grownBy_alloc w _ none) (World.grownBy_alloc _ _ none)) (World.grownBy_alloc _ _ none)⟩
set_option maxRecDepth 100000 in
set_option maxHeartbeats 2000000 in
theorem plain_t3 (w : World) (nd nn : Int) (n1 n2 n3 : Nat) (A1 A2 A3 : Option Addr) (c1 c2 c3 : Nat) :
    Calls Tryz.prog 6 #[.agg #[.int .i64 3, .int .i64 nd, .int .i64 nn, .slice A1 n1 c1, .slice A2 n2 c2, .slice A3 n3 c3]] w fun e w' => e = .returned (.agg #[.int .i64 3, .int .i64 0, .int .i64 nn, .slice none 0 0, .slice none 0 0, .slice none 0 0]) ∧ w.grownBy w' none := by
  go_enter Tryz.func6, Tryz.ntmps6
  go_wp2_with fail
  have h := Blk.new (w.alloc (.cells #[.int .i64 3, .int .i64 nd, .int .i64 nn, .slice A1 n1 c1, .slice A2 n2 c2, .slice A3 n3 c3] 31)) 31 #[.int .i64 3, .int .i64 0, .int .i64 nn, .slice none 0 0, .slice none 0 0, .slice none 0 0]
  rw [World.size_alloc] at h
  refine bodyPost_ret (results_cellS rfl _ _ _ ⟨w.heap.size + 1, 0, none⟩ _ rfl (load_sixR (h.alloc _))) rfl ?_
  exact ⟨rfl, grown_trans (grown_trans (World.grownBy_alloc w _ none) (World.grownBy_alloc _ _ none)) (World.grownBy_alloc _ _ none)⟩
set_option maxRecDepth 100000 in
set_option maxHeartbeats 2000000 in
theorem plain_t4 (w : World) (nd nn : Int) (n1 n2 n3 : Nat) (A1 A2 A3 : Option Addr) (c1 c2 c3 : Nat) :
    Calls Tryz.prog 6 #[.agg #[.int .i64 4, .int .i64 nd, .int .i64 nn, .slice A1 n1 c1, .slice A2 n2 c2, .slice A3 n3 c3]] w fun e w' => e = .returned (.agg #[.int .i64 4, .int .i64 nd, .int .i64 0, .slice none 0 0, .slice none 0 0, .slice none 0 0]) ∧ w.grownBy w' none := by
  go_enter Tryz.func6, Tryz.ntmps6
  go_wp2_with fail
  have h := Blk.new (w.alloc (.cells #[.int .i64 4, .int .i64 nd, .int .i64 nn, .slice A1 n1 c1, .slice A2 n2 c2, .slice A3 n3 c3] 31)) 31 #[.int .i64 4, .int .i64 nd, .int .i64 0, .slice none 0 0, .slice none 0 0, .slice none 0 0]
  rw [World.size_alloc] at h
  refine bodyPost_ret (results_cellS rfl _ _ _ ⟨w.heap.size + 1, 0, none⟩ _ rfl (load_sixR (h.alloc _))) rfl ?_
  exact ⟨rfl, grown_trans (grown_trans (World.grownBy_alloc w _ none) (World.grownBy_alloc _ _ none)) (World.grownBy_alloc _ _ none)⟩
set_option maxRecDepth 100000 in
set_option maxHeartbeats 2000000 in
theorem plain_t5 (w : World) (nd nn : Int) (n1 n2 n3 : Nat) (A1 A2 A3 : Option Addr) (c1 c2 c3 : Nat) :
    Calls Tryz.prog 6 #[.agg #[.int .i64 5, .int .i64 nd, .int .i64 nn, .slice A1 n1 c1, .slice A2 n2 c2, .slice A3 n3 c3]] w fun e w' => e = .returned (.agg #[.int .i64 5, .int .i64 nd, .int .i64 0, .slice none 0 0, .slice none 0 0, .slice A3 n3 c3]) ∧ w.grownBy w' none := by
  go_enter Tryz.func6, Tryz.ntmps6
  go_upto_region 11 with (fail)
  obtain ⟨W0, hW0⟩ : ∃ W0, ((w.alloc (.cells #[.int .i64 5, .int .i64 nd, .int .i64 nn, .slice A1 n1 c1, .slice A2 n2 c2, .slice A3 n3 c3] 31)).alloc (.cells #[.int .i64 0, .int .i64 0, .int .i64 0, .slice none 0 0, .slice none 0 0, .slice none 0 0] 31)).alloc (.cells #[.int .i64 5, .int .i64 0, .int .i64 0, .slice none 0 0, .slice none 0 0, .slice none 0 0] 31) = W0 := ⟨_, rfl⟩
  rw [hW0]
  have b1 : Blk W0 w.heap.size 31 #[.int .i64 5, .int .i64 nd, .int .i64 nn, .slice A1 n1 c1, .slice A2 n2 c2, .slice A3 n3 c3] := by rw [← hW0]; exact ((Blk.new w _ _).alloc _).alloc _
  have b2 : Blk W0 (w.heap.size + 1) 31 #[.int .i64 0, .int .i64 0, .int .i64 0, .slice none 0 0, .slice none 0 0, .slice none 0 0] := by
    have h := Blk.new (w.alloc (.cells #[.int .i64 5, .int .i64 nd, .int .i64 nn, .slice A1 n1 c1, .slice A2 n2 c2, .slice A3 n3 c3] 31)) 31 #[.int .i64 0, .int .i64 0, .int .i64 0, .slice none 0 0, .slice none 0 0, .slice none 0 0]
    rw [World.size_alloc] at h
    rw [← hW0]; exact h.alloc _
  have b3 : Blk W0 (w.heap.size + 1 + 1) 31 #[.int .i64 5, .int .i64 0, .int .i64 0, .slice none 0 0, .slice none 0 0, .slice none 0 0] := by
    have h := Blk.new ((w.alloc (.cells #[.int .i64 5, .int .i64 nd, .int .i64 nn, .slice A1 n1 c1, .slice A2 n2 c2, .slice A3 n3 c3] 31)).alloc (.cells #[.int .i64 0, .int .i64 0, .int .i64 0, .slice none 0 0, .slice none 0 0, .slice none 0 0] 31)) 31 #[.int .i64 5, .int .i64 0, .int .i64 0, .slice none 0 0, .slice none 0 0, .slice none 0 0]
    rw [World.size_alloc, World.size_alloc] at h
    rw [← hW0]; exact h
  have g0 : w.grownBy W0 none := by rw [← hW0]; exact grown_trans (grown_trans (World.grownBy_alloc w _ none) (World.grownBy_alloc _ _ none)) (World.grownBy_alloc _ _ none)
  clear hW0
  have y1 : W0.cell? ⟨w.heap.size + 1 + 1, 1, none⟩ = some (.int .i64 0) := b3.cell 1
  have f1 := b3.frozen 1
  have y5 : W0.cell? ⟨w.heap.size + 1 + 1, 5, none⟩ = some (.slice none 0 0) := b3.cell 5
  have f5 := b3.frozen 5
  have HB := Lib.hid (And.intro b2 (And.intro b3 g0))
  refine wp_region_held_drew (S := fun V => V.cell? ⟨w.heap.size, 1, none⟩ = some (.int .i64 nd) ∧ V.cell? ⟨w.heap.size, 5, none⟩ = some (.slice A3 n3 c3)) (by kernel_rfl) ⟨b1.cell 1, b1.cell 5⟩ (fun hHeld => ?_)
  clear b1 b2 b3 g0
  refine wpAnyH_take (i := 0) (oi := _) (v := ?vk50) rfl (by kernel_rfl) (by kernel_rfl) (by kernel_rfl) (fun _ _ _ h => h) (Or.inl ⟨by rfl, ?hyk50⟩) (by assumption) ?restk50
  case hyk50 => (intro V hSw; (try dsimp only at hSw); go_simp) <;> with_reducible rfl
  try simp only [Act.put, List.getElem_toArray, List.getElem_cons_succ, List.getElem_cons_zero, List.setIfInBounds_toArray, List.set_cons_zero, List.set_cons_succ]
  refine wpAnyH_take (i := 1) (oi := _) (v := ?vk51) rfl (by kernel_rfl) (by kernel_rfl) (by kernel_rfl) (fun _ _ _ h => h) (Or.inl ⟨by rfl, ?hyk51⟩) (by assumption) ?restk51
  case hyk51 => (intro V hSw; (try dsimp only at hSw); go_simp) <;> with_reducible rfl
  try simp only [Act.put, List.getElem_toArray, List.getElem_cons_succ, List.getElem_cons_zero, List.setIfInBounds_toArray, List.set_cons_zero, List.set_cons_succ]
  refine wpAnyH_take (i := 2) (oi := _) (v := ?vk52) rfl (by kernel_rfl) (by kernel_rfl) (by kernel_rfl) (fun _ _ _ h => h) (Or.inl ⟨by rfl, ?hyk52⟩) (by assumption) ?restk52
  case hyk52 => (intro V hSw; (try dsimp only at hSw); go_simp) <;> with_reducible rfl
  try simp only [Act.put, List.getElem_toArray, List.getElem_cons_succ, List.getElem_cons_zero, List.setIfInBounds_toArray, List.set_cons_zero, List.set_cons_succ]
  refine wpAnyH_take (i := 3) (oi := _) (v := ?vk53) rfl (by kernel_rfl) (by kernel_rfl) (by kernel_rfl) (fun _ _ _ h => h) (Or.inl ⟨by rfl, ?hyk53⟩) (by assumption) ?restk53
  case hyk53 => (intro V hSw; (try dsimp only at hSw); go_simp) <;> with_reducible rfl
  try simp only [Act.put, List.getElem_toArray, List.getElem_cons_succ, List.getElem_cons_zero, List.setIfInBounds_toArray, List.set_cons_zero, List.set_cons_succ]
  refine wpAnyH_take (i := 4) (oi := _) (v := ?vk54) rfl (by kernel_rfl) (by kernel_rfl) (by kernel_rfl) (fun _ _ _ h => h) (Or.inl ⟨by rfl, ?hyk54⟩) (by assumption) ?restk54
  case hyk54 => (intro V hSw; (try dsimp only at hSw); go_simp) <;> with_reducible rfl
  try simp only [Act.put, List.getElem_toArray, List.getElem_cons_succ, List.getElem_cons_zero, List.setIfInBounds_toArray, List.set_cons_zero, List.set_cons_succ]
  refine wpAnyH_ready (rs := [5]) (by kernel_rfl) (by simp) ?_
  refine (AllReadyH.cons (o := _) rfl (fun K9 hK => ?_) AllReadyH.nil)
  go_simp
  refine hK.out _ _ ⟨(World.cell?_setCell_far _ _ _ _ (by simp only [ne_eq]; omega)).trans hHeld.1, (World.cell?_setCell_far _ _ _ _ (by simp only [ne_eq]; omega)).trans hHeld.2⟩ (fun hHeld => ?_)
  clear hK K9
  try simp only [Act.put, List.getElem_toArray, List.getElem_cons_succ, List.getElem_cons_zero, List.setIfInBounds_toArray, List.set_cons_zero, List.set_cons_succ]
  refine wpAnyH_take (i := 6) (oi := _) (v := ?vk56) rfl (by kernel_rfl) (by kernel_rfl) (by kernel_rfl) (fun _ _ _ h => h) (Or.inl ⟨by rfl, ?hyk56⟩) (by assumption) ?restk56
  case hyk56 => (intro V hSw; (try dsimp only at hSw); go_simp) <;> with_reducible rfl
  try simp only [Act.put, List.getElem_toArray, List.getElem_cons_succ, List.getElem_cons_zero, List.setIfInBounds_toArray, List.set_cons_zero, List.set_cons_succ]
  refine wpAnyH_ready (rs := [7]) (by kernel_rfl) (by simp) ?_
  refine (AllReadyH.cons (o := _) rfl (fun K9 hK => ?_) AllReadyH.nil)
  go_simp
  refine hK.out _ _ ⟨(World.cell?_setCell_far _ _ _ _ (by simp only [ne_eq]; omega)).trans hHeld.1, (World.cell?_setCell_far _ _ _ _ (by simp only [ne_eq]; omega)).trans hHeld.2⟩ (fun hHeld => ?_)
  clear hK K9
  try simp only [Act.put, List.getElem_toArray, List.getElem_cons_succ, List.getElem_cons_zero, List.setIfInBounds_toArray, List.set_cons_zero, List.set_cons_succ]
  refine wpAnyH_done (by kernel_rfl) ?_ _
  obtain ⟨W1, hW1⟩ : ∃ W1, ((W0.setCell ⟨w.heap.size + 1 + 1, 1, none⟩ (.int .i64 nd)).setCell ⟨w.heap.size + 1 + 1, 5, none⟩ (.slice A3 n3 c3)).drew = W1 := ⟨_, rfl⟩
  have b3 : Blk W1 (w.heap.size + 1 + 1) 31 #[.int .i64 5, .int .i64 nd, .int .i64 0, .slice none 0 0, .slice none 0 0, .slice A3 n3 c3] := by rw [← hW1]; exact ((HB.out.2.1.set 1 (.int .i64 nd)).set 5 (.slice A3 n3 c3)).drew
  have b2 : Blk W1 (w.heap.size + 1) 31 #[.int .i64 0, .int .i64 0, .int .i64 0, .slice none 0 0, .slice none 0 0, .slice none 0 0] := by rw [← hW1]; exact ((HB.out.1.far (by simp only [ne_eq]; omega) _).far (by simp only [ne_eq]; omega) _).drew
  have g1 : w.grownBy W1 none := by rw [← hW1]; exact grown_drew (grown_cell (grown_cell HB.out.2.2 _ (by omega)) _ (by omega))
  rw [hW1]
  have z0 : W1.cell? ⟨w.heap.size + 1 + 1, 0, none⟩ = some (.int .i64 5) := b3.cell 0
  have x0 : W1.cell? ⟨w.heap.size + 1, 0, none⟩ = some (.int .i64 0) := b2.cell 0
  have q0 := b2.frozen 0
  have z1 : W1.cell? ⟨w.heap.size + 1 + 1, 1, none⟩ = some (.int .i64 nd) := b3.cell 1
  have x1 : W1.cell? ⟨w.heap.size + 1, 1, none⟩ = some (.int .i64 0) := b2.cell 1
  have q1 := b2.frozen 1
  have z2 : W1.cell? ⟨w.heap.size + 1 + 1, 2, none⟩ = some (.int .i64 0) := b3.cell 2
  have x2 : W1.cell? ⟨w.heap.size + 1, 2, none⟩ = some (.int .i64 0) := b2.cell 2
  have q2 := b2.frozen 2
  have z3 : W1.cell? ⟨w.heap.size + 1 + 1, 3, none⟩ = some (.slice none 0 0) := b3.cell 3
  have x3 : W1.cell? ⟨w.heap.size + 1, 3, none⟩ = some (.slice none 0 0) := b2.cell 3
  have q3 := b2.frozen 3
  have z4 : W1.cell? ⟨w.heap.size + 1 + 1, 4, none⟩ = some (.slice none 0 0) := b3.cell 4
  have x4 : W1.cell? ⟨w.heap.size + 1, 4, none⟩ = some (.slice none 0 0) := b2.cell 4
  have q4 := b2.frozen 4
  have z5 : W1.cell? ⟨w.heap.size + 1 + 1, 5, none⟩ = some (.slice A3 n3 c3) := b3.cell 5
  have x5 : W1.cell? ⟨w.heap.size + 1, 5, none⟩ = some (.slice none 0 0) := b2.cell 5
  have q5 := b2.frozen 5
  have HB1 := Lib.hid (And.intro b2 g1)
  clear b2 b3 g1 hW1 hHeld y1 f1 y5 f5
  go_wp2_with fail
  refine bodyPost_ret (results_cellS rfl _ _ _ ⟨w.heap.size + 1, 0, none⟩ _ rfl (load_sixR (op_stored HB1.out.1 rfl _ _ _ _ _ _))) rfl ?_
  exact ⟨rfl, op_grown HB1.out.2 (by omega) _ _ _ _ _ _⟩
set_option maxRecDepth 100000 in
set_option maxHeartbeats 2000000 in
theorem plain_t6 (w : World) (nd nn : Int) (n1 n2 n3 : Nat) (A1 A2 A3 : Option Addr) (c1 c2 c3 : Nat) :
    Calls Tryz.prog 6 #[.agg #[.int .i64 6, .int .i64 nd, .int .i64 nn, .slice A1 n1 c1, .slice A2 n2 c2, .slice A3 n3 c3]] w fun e w' => e = .returned (.agg #[.int .i64 6, .int .i64 nd, .int .i64 0, .slice A1 n1 c1, .slice none 0 0, .slice none 0 0]) ∧ w.grownBy w' none := by
  go_enter Tryz.func6, Tryz.ntmps6
  go_upto_region 13 with (fail)
  obtain ⟨W0, hW0⟩ : ∃ W0, ((w.alloc (.cells #[.int .i64 6, .int .i64 nd, .int .i64 nn, .slice A1 n1 c1, .slice A2 n2 c2, .slice A3 n3 c3] 31)).alloc (.cells #[.int .i64 0, .int .i64 0, .int .i64 0, .slice none 0 0, .slice none 0 0, .slice none 0 0] 31)).alloc (.cells #[.int .i64 6, .int .i64 0, .int .i64 0, .slice none 0 0, .slice none 0 0, .slice none 0 0] 31) = W0 := ⟨_, rfl⟩
  rw [hW0]
  have b1 : Blk W0 w.heap.size 31 #[.int .i64 6, .int .i64 nd, .int .i64 nn, .slice A1 n1 c1, .slice A2 n2 c2, .slice A3 n3 c3] := by rw [← hW0]; exact ((Blk.new w _ _).alloc _).alloc _
  have b2 : Blk W0 (w.heap.size + 1) 31 #[.int .i64 0, .int .i64 0, .int .i64 0, .slice none 0 0, .slice none 0 0, .slice none 0 0] := by
    have h := Blk.new (w.alloc (.cells #[.int .i64 6, .int .i64 nd, .int .i64 nn, .slice A1 n1 c1, .slice A2 n2 c2, .slice A3 n3 c3] 31)) 31 #[.int .i64 0, .int .i64 0, .int .i64 0, .slice none 0 0, .slice none 0 0, .slice none 0 0]
    rw [World.size_alloc] at h
    rw [← hW0]; exact h.alloc _
  have b3 : Blk W0 (w.heap.size + 1 + 1) 31 #[.int .i64 6, .int .i64 0, .int .i64 0, .slice none 0 0, .slice none 0 0, .slice none 0 0] := by
    have h := Blk.new ((w.alloc (.cells #[.int .i64 6, .int .i64 nd, .int .i64 nn, .slice A1 n1 c1, .slice A2 n2 c2, .slice A3 n3 c3] 31)).alloc (.cells #[.int .i64 0, .int .i64 0, .int .i64 0, .slice none 0 0, .slice none 0 0, .slice none 0 0] 31)) 31 #[.int .i64 6, .int .i64 0, .int .i64 0, .slice none 0 0, .slice none 0 0, .slice none 0 0]
    rw [World.size_alloc, World.size_alloc] at h
    rw [← hW0]; exact h
  have g0 : w.grownBy W0 none := by rw [← hW0]; exact grown_trans (grown_trans (World.grownBy_alloc w _ none) (World.grownBy_alloc _ _ none)) (World.grownBy_alloc _ _ none)
  clear hW0
  have y1 : W0.cell? ⟨w.heap.size + 1 + 1, 1, none⟩ = some (.int .i64 0) := b3.cell 1
  have f1 := b3.frozen 1
  have y3 : W0.cell? ⟨w.heap.size + 1 + 1, 3, none⟩ = some (.slice none 0 0) := b3.cell 3
  have f3 := b3.frozen 3
  have HB := Lib.hid (And.intro b2 (And.intro b3 g0))
  refine wp_region_held_drew (S := fun V => V.cell? ⟨w.heap.size, 1, none⟩ = some (.int .i64 nd) ∧ V.cell? ⟨w.heap.size, 3, none⟩ = some (.slice A1 n1 c1)) (by kernel_rfl) ⟨b1.cell 1, b1.cell 3⟩ (fun hHeld => ?_)
  clear b1 b2 b3 g0
  refine wpAnyH_take (i := 0) (oi := _) (v := ?vk60) rfl (by kernel_rfl) (by kernel_rfl) (by kernel_rfl) (fun _ _ _ h => h) (Or.inl ⟨by rfl, ?hyk60⟩) (by assumption) ?restk60
  case hyk60 => (intro V hSw; (try dsimp only at hSw); go_simp) <;> with_reducible rfl
  try simp only [Act.put, List.getElem_toArray, List.getElem_cons_succ, List.getElem_cons_zero, List.setIfInBounds_toArray, List.set_cons_zero, List.set_cons_succ]
  refine wpAnyH_take (i := 1) (oi := _) (v := ?vk61) rfl (by kernel_rfl) (by kernel_rfl) (by kernel_rfl) (fun _ _ _ h => h) (Or.inl ⟨by rfl, ?hyk61⟩) (by assumption) ?restk61
  case hyk61 => (intro V hSw; (try dsimp only at hSw); go_simp) <;> with_reducible rfl
  try simp only [Act.put, List.getElem_toArray, List.getElem_cons_succ, List.getElem_cons_zero, List.setIfInBounds_toArray, List.set_cons_zero, List.set_cons_succ]
  refine wpAnyH_take (i := 2) (oi := _) (v := ?vk62) rfl (by kernel_rfl) (by kernel_rfl) (by kernel_rfl) (fun _ _ _ h => h) (Or.inl ⟨by rfl, ?hyk62⟩) (by assumption) ?restk62
  case hyk62 => (intro V hSw; (try dsimp only at hSw); go_simp) <;> with_reducible rfl
  try simp only [Act.put, List.getElem_toArray, List.getElem_cons_succ, List.getElem_cons_zero, List.setIfInBounds_toArray, List.set_cons_zero, List.set_cons_succ]
  refine wpAnyH_take (i := 3) (oi := _) (v := ?vk63) rfl (by kernel_rfl) (by kernel_rfl) (by kernel_rfl) (fun _ _ _ h => h) (Or.inl ⟨by rfl, ?hyk63⟩) (by assumption) ?restk63
  case hyk63 => (intro V hSw; (try dsimp only at hSw); go_simp) <;> with_reducible rfl
  try simp only [Act.put, List.getElem_toArray, List.getElem_cons_succ, List.getElem_cons_zero, List.setIfInBounds_toArray, List.set_cons_zero, List.set_cons_succ]
  refine wpAnyH_take (i := 4) (oi := _) (v := ?vk64) rfl (by kernel_rfl) (by kernel_rfl) (by kernel_rfl) (fun _ _ _ h => h) (Or.inl ⟨by rfl, ?hyk64⟩) (by assumption) ?restk64
  case hyk64 => (intro V hSw; (try dsimp only at hSw); go_simp) <;> with_reducible rfl
  try simp only [Act.put, List.getElem_toArray, List.getElem_cons_succ, List.getElem_cons_zero, List.setIfInBounds_toArray, List.set_cons_zero, List.set_cons_succ]
  refine wpAnyH_ready (rs := [5]) (by kernel_rfl) (by simp) ?_
  refine (AllReadyH.cons (o := _) rfl (fun K9 hK => ?_) AllReadyH.nil)
  go_simp
  refine hK.out _ _ ⟨(World.cell?_setCell_far _ _ _ _ (by simp only [ne_eq]; omega)).trans hHeld.1, (World.cell?_setCell_far _ _ _ _ (by simp only [ne_eq]; omega)).trans hHeld.2⟩ (fun hHeld => ?_)
  clear hK K9
  try simp only [Act.put, List.getElem_toArray, List.getElem_cons_succ, List.getElem_cons_zero, List.setIfInBounds_toArray, List.set_cons_zero, List.set_cons_succ]
  refine wpAnyH_take (i := 6) (oi := _) (v := ?vk66) rfl (by kernel_rfl) (by kernel_rfl) (by kernel_rfl) (fun _ _ _ h => h) (Or.inl ⟨by rfl, ?hyk66⟩) (by assumption) ?restk66
  case hyk66 => (intro V hSw; (try dsimp only at hSw); go_simp) <;> with_reducible rfl
  try simp only [Act.put, List.getElem_toArray, List.getElem_cons_succ, List.getElem_cons_zero, List.setIfInBounds_toArray, List.set_cons_zero, List.set_cons_succ]
  refine wpAnyH_ready (rs := [7]) (by kernel_rfl) (by simp) ?_
  refine (AllReadyH.cons (o := _) rfl (fun K9 hK => ?_) AllReadyH.nil)
  go_simp
  refine hK.out _ _ ⟨(World.cell?_setCell_far _ _ _ _ (by simp only [ne_eq]; omega)).trans hHeld.1, (World.cell?_setCell_far _ _ _ _ (by simp only [ne_eq]; omega)).trans hHeld.2⟩ (fun hHeld => ?_)
  clear hK K9
  try simp only [Act.put, List.getElem_toArray, List.getElem_cons_succ, List.getElem_cons_zero, List.setIfInBounds_toArray, List.set_cons_zero, List.set_cons_succ]
  refine wpAnyH_done (by kernel_rfl) ?_ _
  obtain ⟨W1, hW1⟩ : ∃ W1, ((W0.setCell ⟨w.heap.size + 1 + 1, 1, none⟩ (.int .i64 nd)).setCell ⟨w.heap.size + 1 + 1, 3, none⟩ (.slice A1 n1 c1)).drew = W1 := ⟨_, rfl⟩
  have b3 : Blk W1 (w.heap.size + 1 + 1) 31 #[.int .i64 6, .int .i64 nd, .int .i64 0, .slice A1 n1 c1, .slice none 0 0, .slice none 0 0] := by rw [← hW1]; exact ((HB.out.2.1.set 1 (.int .i64 nd)).set 3 (.slice A1 n1 c1)).drew
  have b2 : Blk W1 (w.heap.size + 1) 31 #[.int .i64 0, .int .i64 0, .int .i64 0, .slice none 0 0, .slice none 0 0, .slice none 0 0] := by rw [← hW1]; exact ((HB.out.1.far (by simp only [ne_eq]; omega) _).far (by simp only [ne_eq]; omega) _).drew
  have g1 : w.grownBy W1 none := by rw [← hW1]; exact grown_drew (grown_cell (grown_cell HB.out.2.2 _ (by omega)) _ (by omega))
  rw [hW1]
  have z0 : W1.cell? ⟨w.heap.size + 1 + 1, 0, none⟩ = some (.int .i64 6) := b3.cell 0
  have x0 : W1.cell? ⟨w.heap.size + 1, 0, none⟩ = some (.int .i64 0) := b2.cell 0
  have q0 := b2.frozen 0
  have z1 : W1.cell? ⟨w.heap.size + 1 + 1, 1, none⟩ = some (.int .i64 nd) := b3.cell 1
  have x1 : W1.cell? ⟨w.heap.size + 1, 1, none⟩ = some (.int .i64 0) := b2.cell 1
  have q1 := b2.frozen 1
  have z2 : W1.cell? ⟨w.heap.size + 1 + 1, 2, none⟩ = some (.int .i64 0) := b3.cell 2
  have x2 : W1.cell? ⟨w.heap.size + 1, 2, none⟩ = some (.int .i64 0) := b2.cell 2
  have q2 := b2.frozen 2
  have z3 : W1.cell? ⟨w.heap.size + 1 + 1, 3, none⟩ = some (.slice A1 n1 c1) := b3.cell 3
  have x3 : W1.cell? ⟨w.heap.size + 1, 3, none⟩ = some (.slice none 0 0) := b2.cell 3
  have q3 := b2.frozen 3
  have z4 : W1.cell? ⟨w.heap.size + 1 + 1, 4, none⟩ = some (.slice none 0 0) := b3.cell 4
  have x4 : W1.cell? ⟨w.heap.size + 1, 4, none⟩ = some (.slice none 0 0) := b2.cell 4
  have q4 := b2.frozen 4
  have z5 : W1.cell? ⟨w.heap.size + 1 + 1, 5, none⟩ = some (.slice none 0 0) := b3.cell 5
  have x5 : W1.cell? ⟨w.heap.size + 1, 5, none⟩ = some (.slice none 0 0) := b2.cell 5
  have q5 := b2.frozen 5
  have HB1 := Lib.hid (And.intro b2 g1)
  clear b2 b3 g1 hW1 hHeld y1 f1 y3 f3
  go_wp2_with fail
  refine bodyPost_ret (results_cellS rfl _ _ _ ⟨w.heap.size + 1, 0, none⟩ _ rfl (load_sixR (op_stored HB1.out.1 rfl _ _ _ _ _ _))) rfl ?_
  exact ⟨rfl, op_grown HB1.out.2 (by omega) _ _ _ _ _ _⟩
set_option maxRecDepth 100000 in
set_option maxHeartbeats 2000000 in
theorem plain_t7 (w : World) (nd nn : Int) (n1 n2 n3 : Nat) (A1 A2 A3 : Option Addr) (c1 c2 c3 : Nat) :
    Calls Tryz.prog 6 #[.agg #[.int .i64 7, .int .i64 nd, .int .i64 nn, .slice A1 n1 c1, .slice A2 n2 c2, .slice A3 n3 c3]] w fun e w' => e = .returned (.agg #[.int .i64 7, .int .i64 nd, .int .i64 nn, .slice none 0 0, .slice none 0 0, .slice none 0 0]) ∧ w.grownBy w' none := by
  go_enter Tryz.func6, Tryz.ntmps6
  go_upto_region 15 with (fail)
  obtain ⟨W0, hW0⟩ : ∃ W0, ((w.alloc (.cells #[.int .i64 7, .int .i64 nd, .int .i64 nn, .slice A1 n1 c1, .slice A2 n2 c2, .slice A3 n3 c3] 31)).alloc (.cells #[.int .i64 0, .int .i64 0, .int .i64 0, .slice none 0 0, .slice none 0 0, .slice none 0 0] 31)).alloc (.cells #[.int .i64 7, .int .i64 0, .int .i64 0, .slice none 0 0, .slice none 0 0, .slice none 0 0] 31) = W0 := ⟨_, rfl⟩
  rw [hW0]
  have b1 : Blk W0 w.heap.size 31 #[.int .i64 7, .int .i64 nd, .int .i64 nn, .slice A1 n1 c1, .slice A2 n2 c2, .slice A3 n3 c3] := by rw [← hW0]; exact ((Blk.new w _ _).alloc _).alloc _
  have b2 : Blk W0 (w.heap.size + 1) 31 #[.int .i64 0, .int .i64 0, .int .i64 0, .slice none 0 0, .slice none 0 0, .slice none 0 0] := by
    have h := Blk.new (w.alloc (.cells #[.int .i64 7, .int .i64 nd, .int .i64 nn, .slice A1 n1 c1, .slice A2 n2 c2, .slice A3 n3 c3] 31)) 31 #[.int .i64 0, .int .i64 0, .int .i64 0, .slice none 0 0, .slice none 0 0, .slice none 0 0]
    rw [World.size_alloc] at h
    rw [← hW0]; exact h.alloc _
  have b3 : Blk W0 (w.heap.size + 1 + 1) 31 #[.int .i64 7, .int .i64 0, .int .i64 0, .slice none 0 0, .slice none 0 0, .slice none 0 0] := by
    have h := Blk.new ((w.alloc (.cells #[.int .i64 7, .int .i64 nd, .int .i64 nn, .slice A1 n1 c1, .slice A2 n2 c2, .slice A3 n3 c3] 31)).alloc (.cells #[.int .i64 0, .int .i64 0, .int .i64 0, .slice none 0 0, .slice none 0 0, .slice none 0 0] 31)) 31 #[.int .i64 7, .int .i64 0, .int .i64 0, .slice none 0 0, .slice none 0 0, .slice none 0 0]
    rw [World.size_alloc, World.size_alloc] at h
    rw [← hW0]; exact h
  have g0 : w.grownBy W0 none := by rw [← hW0]; exact grown_trans (grown_trans (World.grownBy_alloc w _ none) (World.grownBy_alloc _ _ none)) (World.grownBy_alloc _ _ none)
  clear hW0
  have y1 : W0.cell? ⟨w.heap.size + 1 + 1, 1, none⟩ = some (.int .i64 0) := b3.cell 1
  have f1 := b3.frozen 1
  have y2 : W0.cell? ⟨w.heap.size + 1 + 1, 2, none⟩ = some (.int .i64 0) := b3.cell 2
  have f2 := b3.frozen 2
  have HB := Lib.hid (And.intro b2 (And.intro b3 g0))
  refine wp_region_held_drew (S := fun V => V.cell? ⟨w.heap.size, 1, none⟩ = some (.int .i64 nd) ∧ V.cell? ⟨w.heap.size, 2, none⟩ = some (.int .i64 nn)) (by kernel_rfl) ⟨b1.cell 1, b1.cell 2⟩ (fun hHeld => ?_)
  clear b1 b2 b3 g0
  refine wpAnyH_take (i := 0) (oi := _) (v := ?vk70) rfl (by kernel_rfl) (by kernel_rfl) (by kernel_rfl) (fun _ _ _ h => h) (Or.inl ⟨by rfl, ?hyk70⟩) (by assumption) ?restk70
  case hyk70 => (intro V hSw; (try dsimp only at hSw); go_simp) <;> with_reducible rfl
  try simp only [Act.put, List.getElem_toArray, List.getElem_cons_succ, List.getElem_cons_zero, List.setIfInBounds_toArray, List.set_cons_zero, List.set_cons_succ]
  refine wpAnyH_take (i := 1) (oi := _) (v := ?vk71) rfl (by kernel_rfl) (by kernel_rfl) (by kernel_rfl) (fun _ _ _ h => h) (Or.inl ⟨by rfl, ?hyk71⟩) (by assumption) ?restk71
  case hyk71 => (intro V hSw; (try dsimp only at hSw); go_simp) <;> with_reducible rfl
  try simp only [Act.put, List.getElem_toArray, List.getElem_cons_succ, List.getElem_cons_zero, List.setIfInBounds_toArray, List.set_cons_zero, List.set_cons_succ]
  refine wpAnyH_take (i := 2) (oi := _) (v := ?vk72) rfl (by kernel_rfl) (by kernel_rfl) (by kernel_rfl) (fun _ _ _ h => h) (Or.inl ⟨by rfl, ?hyk72⟩) (by assumption) ?restk72
  case hyk72 => (intro V hSw; (try dsimp only at hSw); go_simp) <;> with_reducible rfl
  try simp only [Act.put, List.getElem_toArray, List.getElem_cons_succ, List.getElem_cons_zero, List.setIfInBounds_toArray, List.set_cons_zero, List.set_cons_succ]
  refine wpAnyH_take (i := 3) (oi := _) (v := ?vk73) rfl (by kernel_rfl) (by kernel_rfl) (by kernel_rfl) (fun _ _ _ h => h) (Or.inl ⟨by rfl, ?hyk73⟩) (by assumption) ?restk73
  case hyk73 => (intro V hSw; (try dsimp only at hSw); go_simp) <;> with_reducible rfl
  try simp only [Act.put, List.getElem_toArray, List.getElem_cons_succ, List.getElem_cons_zero, List.setIfInBounds_toArray, List.set_cons_zero, List.set_cons_succ]
  refine wpAnyH_take (i := 4) (oi := _) (v := ?vk74) rfl (by kernel_rfl) (by kernel_rfl) (by kernel_rfl) (fun _ _ _ h => h) (Or.inl ⟨by rfl, ?hyk74⟩) (by assumption) ?restk74
  case hyk74 => (intro V hSw; (try dsimp only at hSw); go_simp) <;> with_reducible rfl
  try simp only [Act.put, List.getElem_toArray, List.getElem_cons_succ, List.getElem_cons_zero, List.setIfInBounds_toArray, List.set_cons_zero, List.set_cons_succ]
  refine wpAnyH_ready (rs := [5]) (by kernel_rfl) (by simp) ?_
  refine (AllReadyH.cons (o := _) rfl (fun K9 hK => ?_) AllReadyH.nil)
  go_simp
  refine hK.out _ _ ⟨(World.cell?_setCell_far _ _ _ _ (by simp only [ne_eq]; omega)).trans hHeld.1, (World.cell?_setCell_far _ _ _ _ (by simp only [ne_eq]; omega)).trans hHeld.2⟩ (fun hHeld => ?_)
  clear hK K9
  try simp only [Act.put, List.getElem_toArray, List.getElem_cons_succ, List.getElem_cons_zero, List.setIfInBounds_toArray, List.set_cons_zero, List.set_cons_succ]
  refine wpAnyH_take (i := 6) (oi := _) (v := ?vk76) rfl (by kernel_rfl) (by kernel_rfl) (by kernel_rfl) (fun _ _ _ h => h) (Or.inl ⟨by rfl, ?hyk76⟩) (by assumption) ?restk76
  case hyk76 => (intro V hSw; (try dsimp only at hSw); go_simp) <;> with_reducible rfl
  try simp only [Act.put, List.getElem_toArray, List.getElem_cons_succ, List.getElem_cons_zero, List.setIfInBounds_toArray, List.set_cons_zero, List.set_cons_succ]
  refine wpAnyH_ready (rs := [7]) (by kernel_rfl) (by simp) ?_
  refine (AllReadyH.cons (o := _) rfl (fun K9 hK => ?_) AllReadyH.nil)
  go_simp
  refine hK.out _ _ ⟨(World.cell?_setCell_far _ _ _ _ (by simp only [ne_eq]; omega)).trans hHeld.1, (World.cell?_setCell_far _ _ _ _ (by simp only [ne_eq]; omega)).trans hHeld.2⟩ (fun hHeld => ?_)
  clear hK K9
  try simp only [Act.put, List.getElem_toArray, List.getElem_cons_succ, List.getElem_cons_zero, List.setIfInBounds_toArray, List.set_cons_zero, List.set_cons_succ]
  refine wpAnyH_done (by kernel_rfl) ?_ _
  obtain ⟨W1, hW1⟩ : ∃ W1, ((W0.setCell ⟨w.heap.size + 1 + 1, 1, none⟩ (.int .i64 nd)).setCell ⟨w.heap.size + 1 + 1, 2, none⟩ (.int .i64 nn)).drew = W1 := ⟨_, rfl⟩
  have b3 : Blk W1 (w.heap.size + 1 + 1) 31 #[.int .i64 7, .int .i64 nd, .int .i64 nn, .slice none 0 0, .slice none 0 0, .slice none 0 0] := by rw [← hW1]; exact ((HB.out.2.1.set 1 (.int .i64 nd)).set 2 (.int .i64 nn)).drew
  have b2 : Blk W1 (w.heap.size + 1) 31 #[.int .i64 0, .int .i64 0, .int .i64 0, .slice none 0 0, .slice none 0 0, .slice none 0 0] := by rw [← hW1]; exact ((HB.out.1.far (by simp only [ne_eq]; omega) _).far (by simp only [ne_eq]; omega) _).drew
  have g1 : w.grownBy W1 none := by rw [← hW1]; exact grown_drew (grown_cell (grown_cell HB.out.2.2 _ (by omega)) _ (by omega))
  rw [hW1]
  have z0 : W1.cell? ⟨w.heap.size + 1 + 1, 0, none⟩ = some (.int .i64 7) := b3.cell 0
  have x0 : W1.cell? ⟨w.heap.size + 1, 0, none⟩ = some (.int .i64 0) := b2.cell 0
  have q0 := b2.frozen 0
  have z1 : W1.cell? ⟨w.heap.size + 1 + 1, 1, none⟩ = some (.int .i64 nd) := b3.cell 1
  have x1 : W1.cell? ⟨w.heap.size + 1, 1, none⟩ = some (.int .i64 0) := b2.cell 1
  have q1 := b2.frozen 1
  have z2 : W1.cell? ⟨w.heap.size + 1 + 1, 2, none⟩ = some (.int .i64 nn) := b3.cell 2
  have x2 : W1.cell? ⟨w.heap.size + 1, 2, none⟩ = some (.int .i64 0) := b2.cell 2
  have q2 := b2.frozen 2
  have z3 : W1.cell? ⟨w.heap.size + 1 + 1, 3, none⟩ = some (.slice none 0 0) := b3.cell 3
  have x3 : W1.cell? ⟨w.heap.size + 1, 3, none⟩ = some (.slice none 0 0) := b2.cell 3
  have q3 := b2.frozen 3
  have z4 : W1.cell? ⟨w.heap.size + 1 + 1, 4, none⟩ = some (.slice none 0 0) := b3.cell 4
  have x4 : W1.cell? ⟨w.heap.size + 1, 4, none⟩ = some (.slice none 0 0) := b2.cell 4
  have q4 := b2.frozen 4
  have z5 : W1.cell? ⟨w.heap.size + 1 + 1, 5, none⟩ = some (.slice none 0 0) := b3.cell 5
  have x5 : W1.cell? ⟨w.heap.size + 1, 5, none⟩ = some (.slice none 0 0) := b2.cell 5
  have q5 := b2.frozen 5
  have HB1 := Lib.hid (And.intro b2 g1)
  clear b2 b3 g1 hW1 hHeld y1 f1 y2 f2
  go_wp2_with fail
  refine bodyPost_ret (results_cellS rfl _ _ _ ⟨w.heap.size + 1, 0, none⟩ _ rfl (load_sixR (op_stored HB1.out.1 rfl _ _ _ _ _ _))) rfl ?_
  exact ⟨rfl, op_grown HB1.out.2 (by omega) _ _ _ _ _ _⟩
set_option maxRecDepth 100000 in
set_option maxHeartbeats 2000000 in
theorem plain_t8 (w : World) (nd nn : Int) (n1 n2 n3 : Nat) (A1 A2 A3 : Option Addr) (c1 c2 c3 : Nat) :
    Calls Tryz.prog 6 #[.agg #[.int .i64 8, .int .i64 nd, .int .i64 nn, .slice A1 n1 c1, .slice A2 n2 c2, .slice A3 n3 c3]] w fun e w' => e = .returned (.agg #[.int .i64 8, .int .i64 nd, .int .i64 0, .slice none 0 0, .slice A2 n2 c2, .slice none 0 0]) ∧ w.grownBy w' none := by
  go_enter Tryz.func6, Tryz.ntmps6
  go_upto_region 17 with (fail)
  obtain ⟨W0, hW0⟩ : ∃ W0, ((w.alloc (.cells #[.int .i64 8, .int .i64 nd, .int .i64 nn, .slice A1 n1 c1, .slice A2 n2 c2, .slice A3 n3 c3] 31)).alloc (.cells #[.int .i64 0, .int .i64 0, .int .i64 0, .slice none 0 0, .slice none 0 0, .slice none 0 0] 31)).alloc (.cells #[.int .i64 8, .int .i64 0, .int .i64 0, .slice none 0 0, .slice none 0 0, .slice none 0 0] 31) = W0 := ⟨_, rfl⟩
  rw [hW0]
  have b1 : Blk W0 w.heap.size 31 #[.int .i64 8, .int .i64 nd, .int .i64 nn, .slice A1 n1 c1, .slice A2 n2 c2, .slice A3 n3 c3] := by rw [← hW0]; exact ((Blk.new w _ _).alloc _).alloc _
  have b2 : Blk W0 (w.heap.size + 1) 31 #[.int .i64 0, .int .i64 0, .int .i64 0, .slice none 0 0, .slice none 0 0, .slice none 0 0] := by
    have h := Blk.new (w.alloc (.cells #[.int .i64 8, .int .i64 nd, .int .i64 nn, .slice A1 n1 c1, .slice A2 n2 c2, .slice A3 n3 c3] 31)) 31 #[.int .i64 0, .int .i64 0, .int .i64 0, .slice none 0 0, .slice none 0 0, .slice none 0 0]
    rw [World.size_alloc] at h
    rw [← hW0]; exact h.alloc _
  have b3 : Blk W0 (w.heap.size + 1 + 1) 31 #[.int .i64 8, .int .i64 0, .int .i64 0, .slice none 0 0, .slice none 0 0, .slice none 0 0] := by
    have h := Blk.new ((w.alloc (.cells #[.int .i64 8, .int .i64 nd, .int .i64 nn, .slice A1 n1 c1, .slice A2 n2 c2, .slice A3 n3 c3] 31)).alloc (.cells #[.int .i64 0, .int .i64 0, .int .i64 0, .slice none 0 0, .slice none 0 0, .slice none 0 0] 31)) 31 #[.int .i64 8, .int .i64 0, .int .i64 0, .slice none 0 0, .slice none 0 0, .slice none 0 0]
    rw [World.size_alloc, World.size_alloc] at h
    rw [← hW0]; exact h
  have g0 : w.grownBy W0 none := by rw [← hW0]; exact grown_trans (grown_trans (World.grownBy_alloc w _ none) (World.grownBy_alloc _ _ none)) (World.grownBy_alloc _ _ none)
  clear hW0
  have y1 : W0.cell? ⟨w.heap.size + 1 + 1, 1, none⟩ = some (.int .i64 0) := b3.cell 1
  have f1 := b3.frozen 1
  have y4 : W0.cell? ⟨w.heap.size + 1 + 1, 4, none⟩ = some (.slice none 0 0) := b3.cell 4
  have f4 := b3.frozen 4
  have HB := Lib.hid (And.intro b2 (And.intro b3 g0))
  refine wp_region_held_drew (S := fun V => V.cell? ⟨w.heap.size, 1, none⟩ = some (.int .i64 nd) ∧ V.cell? ⟨w.heap.size, 4, none⟩ = some (.slice A2 n2 c2)) (by kernel_rfl) ⟨b1.cell 1, b1.cell 4⟩ (fun hHeld => ?_)
  clear b1 b2 b3 g0
  refine wpAnyH_take (i := 0) (oi := _) (v := ?vk80) rfl (by kernel_rfl) (by kernel_rfl) (by kernel_rfl) (fun _ _ _ h => h) (Or.inl ⟨by rfl, ?hyk80⟩) (by assumption) ?restk80
  case hyk80 => (intro V hSw; (try dsimp only at hSw); go_simp) <;> with_reducible rfl
  try simp only [Act.put, List.getElem_toArray, List.getElem_cons_succ, List.getElem_cons_zero, List.setIfInBounds_toArray, List.set_cons_zero, List.set_cons_succ]
  refine wpAnyH_take (i := 1) (oi := _) (v := ?vk81) rfl (by kernel_rfl) (by kernel_rfl) (by kernel_rfl) (fun _ _ _ h => h) (Or.inl ⟨by rfl, ?hyk81⟩) (by assumption) ?restk81
  case hyk81 => (intro V hSw; (try dsimp only at hSw); go_simp) <;> with_reducible rfl
  try simp only [Act.put, List.getElem_toArray, List.getElem_cons_succ, List.getElem_cons_zero, List.setIfInBounds_toArray, List.set_cons_zero, List.set_cons_succ]
  refine wpAnyH_take (i := 2) (oi := _) (v := ?vk82) rfl (by kernel_rfl) (by kernel_rfl) (by kernel_rfl) (fun _ _ _ h => h) (Or.inl ⟨by rfl, ?hyk82⟩) (by assumption) ?restk82
  case hyk82 => (intro V hSw; (try dsimp only at hSw); go_simp) <;> with_reducible rfl
  try simp only [Act.put, List.getElem_toArray, List.getElem_cons_succ, List.getElem_cons_zero, List.setIfInBounds_toArray, List.set_cons_zero, List.set_cons_succ]
  refine wpAnyH_take (i := 3) (oi := _) (v := ?vk83) rfl (by kernel_rfl) (by kernel_rfl) (by kernel_rfl) (fun _ _ _ h => h) (Or.inl ⟨by rfl, ?hyk83⟩) (by assumption) ?restk83
  case hyk83 => (intro V hSw; (try dsimp only at hSw); go_simp) <;> with_reducible rfl
  try simp only [Act.put, List.getElem_toArray, List.getElem_cons_succ, List.getElem_cons_zero, List.setIfInBounds_toArray, List.set_cons_zero, List.set_cons_succ]
  refine wpAnyH_take (i := 4) (oi := _) (v := ?vk84) rfl (by kernel_rfl) (by kernel_rfl) (by kernel_rfl) (fun _ _ _ h => h) (Or.inl ⟨by rfl, ?hyk84⟩) (by assumption) ?restk84
  case hyk84 => (intro V hSw; (try dsimp only at hSw); go_simp) <;> with_reducible rfl
  try simp only [Act.put, List.getElem_toArray, List.getElem_cons_succ, List.getElem_cons_zero, List.setIfInBounds_toArray, List.set_cons_zero, List.set_cons_succ]
  refine wpAnyH_ready (rs := [5]) (by kernel_rfl) (by simp) ?_
  refine (AllReadyH.cons (o := _) rfl (fun K9 hK => ?_) AllReadyH.nil)
  go_simp
  refine hK.out _ _ ⟨(World.cell?_setCell_far _ _ _ _ (by simp only [ne_eq]; omega)).trans hHeld.1, (World.cell?_setCell_far _ _ _ _ (by simp only [ne_eq]; omega)).trans hHeld.2⟩ (fun hHeld => ?_)
  clear hK K9
  try simp only [Act.put, List.getElem_toArray, List.getElem_cons_succ, List.getElem_cons_zero, List.setIfInBounds_toArray, List.set_cons_zero, List.set_cons_succ]
  refine wpAnyH_take (i := 6) (oi := _) (v := ?vk86) rfl (by kernel_rfl) (by kernel_rfl) (by kernel_rfl) (fun _ _ _ h => h) (Or.inl ⟨by rfl, ?hyk86⟩) (by assumption) ?restk86
  case hyk86 => (intro V hSw; (try dsimp only at hSw); go_simp) <;> with_reducible rfl
  try simp only [Act.put, List.getElem_toArray, List.getElem_cons_succ, List.getElem_cons_zero, List.setIfInBounds_toArray, List.set_cons_zero, List.set_cons_succ]
  refine wpAnyH_ready (rs := [7]) (by kernel_rfl) (by simp) ?_
  refine (AllReadyH.cons (o := _) rfl (fun K9 hK => ?_) AllReadyH.nil)
  go_simp
  refine hK.out _ _ ⟨(World.cell?_setCell_far _ _ _ _ (by simp only [ne_eq]; omega)).trans hHeld.1, (World.cell?_setCell_far _ _ _ _ (by simp only [ne_eq]; omega)).trans hHeld.2⟩ (fun hHeld => ?_)
  clear hK K9
  try simp only [Act.put, List.getElem_toArray, List.getElem_cons_succ, List.getElem_cons_zero, List.setIfInBounds_toArray, List.set_cons_zero, List.set_cons_succ]
  refine wpAnyH_done (by kernel_rfl) ?_ _
  obtain ⟨W1, hW1⟩ : ∃ W1, ((W0.setCell ⟨w.heap.size + 1 + 1, 1, none⟩ (.int .i64 nd)).setCell ⟨w.heap.size + 1 + 1, 4, none⟩ (.slice A2 n2 c2)).drew = W1 := ⟨_, rfl⟩
  have b3 : Blk W1 (w.heap.size + 1 + 1) 31 #[.int .i64 8, .int .i64 nd, .int .i64 0, .slice none 0 0, .slice A2 n2 c2, .slice none 0 0] := by rw [← hW1]; exact ((HB.out.2.1.set 1 (.int .i64 nd)).set 4 (.slice A2 n2 c2)).drew
  have b2 : Blk W1 (w.heap.size + 1) 31 #[.int .i64 0, .int .i64 0, .int .i64 0, .slice none 0 0, .slice none 0 0, .slice none 0 0] := by rw [← hW1]; exact ((HB.out.1.far (by simp only [ne_eq]; omega) _).far (by simp only [ne_eq]; omega) _).drew
  have g1 : w.grownBy W1 none := by rw [← hW1]; exact grown_drew (grown_cell (grown_cell HB.out.2.2 _ (by omega)) _ (by omega))
  rw [hW1]
  have z0 : W1.cell? ⟨w.heap.size + 1 + 1, 0, none⟩ = some (.int .i64 8) := b3.cell 0
  have x0 : W1.cell? ⟨w.heap.size + 1, 0, none⟩ = some (.int .i64 0) := b2.cell 0
  have q0 := b2.frozen 0
  have z1 : W1.cell? ⟨w.heap.size + 1 + 1, 1, none⟩ = some (.int .i64 nd) := b3.cell 1
  have x1 : W1.cell? ⟨w.heap.size + 1, 1, none⟩ = some (.int .i64 0) := b2.cell 1
  have q1 := b2.frozen 1
  have z2 : W1.cell? ⟨w.heap.size + 1 + 1, 2, none⟩ = some (.int .i64 0) := b3.cell 2
  have x2 : W1.cell? ⟨w.heap.size + 1, 2, none⟩ = some (.int .i64 0) := b2.cell 2
  have q2 := b2.frozen 2
  have z3 : W1.cell? ⟨w.heap.size + 1 + 1, 3, none⟩ = some (.slice none 0 0) := b3.cell 3
  have x3 : W1.cell? ⟨w.heap.size + 1, 3, none⟩ = some (.slice none 0 0) := b2.cell 3
  have q3 := b2.frozen 3
  have z4 : W1.cell? ⟨w.heap.size + 1 + 1, 4, none⟩ = some (.slice A2 n2 c2) := b3.cell 4
  have x4 : W1.cell? ⟨w.heap.size + 1, 4, none⟩ = some (.slice none 0 0) := b2.cell 4
  have q4 := b2.frozen 4
  have z5 : W1.cell? ⟨w.heap.size + 1 + 1, 5, none⟩ = some (.slice none 0 0) := b3.cell 5
  have x5 : W1.cell? ⟨w.heap.size + 1, 5, none⟩ = some (.slice none 0 0) := b2.cell 5
  have q5 := b2.frozen 5
  have HB1 := Lib.hid (And.intro b2 g1)
  clear b2 b3 g1 hW1 hHeld y1 f1 y4 f4
  go_wp2_with fail
  refine bodyPost_ret (results_cellS rfl _ _ _ ⟨w.heap.size + 1, 0, none⟩ _ rfl (load_sixR (op_stored HB1.out.1 rfl _ _ _ _ _ _))) rfl ?_
  exact ⟨rfl, op_grown HB1.out.2 (by omega) _ _ _ _ _ _⟩
set_option maxRecDepth 100000 in
set_option maxHeartbeats 2000000 in
theorem plain_t9 (w : World) (nd nn : Int) (n1 n2 n3 : Nat) (A1 A2 A3 : Option Addr) (c1 c2 c3 : Nat) :
    Calls Tryz.prog 6 #[.agg #[.int .i64 9, .int .i64 nd, .int .i64 nn, .slice A1 n1 c1, .slice A2 n2 c2, .slice A3 n3 c3]] w fun e w' => e = .returned (.agg #[.int .i64 9, .int .i64 nd, .int .i64 0, .slice none 0 0, .slice none 0 0, .slice A3 n3 c3]) ∧ w.grownBy w' none := by
  go_enter Tryz.func6, Tryz.ntmps6
  go_upto_region 11 with (fail)
  obtain ⟨W0, hW0⟩ : ∃ W0, ((w.alloc (.cells #[.int .i64 9, .int .i64 nd, .int .i64 nn, .slice A1 n1 c1, .slice A2 n2 c2, .slice A3 n3 c3] 31)).alloc (.cells #[.int .i64 0, .int .i64 0, .int .i64 0, .slice none 0 0, .slice none 0 0, .slice none 0 0] 31)).alloc (.cells #[.int .i64 9, .int .i64 0, .int .i64 0, .slice none 0 0, .slice none 0 0, .slice none 0 0] 31) = W0 := ⟨_, rfl⟩
  rw [hW0]
  have b1 : Blk W0 w.heap.size 31 #[.int .i64 9, .int .i64 nd, .int .i64 nn, .slice A1 n1 c1, .slice A2 n2 c2, .slice A3 n3 c3] := by rw [← hW0]; exact ((Blk.new w _ _).alloc _).alloc _
  have b2 : Blk W0 (w.heap.size + 1) 31 #[.int .i64 0, .int .i64 0, .int .i64 0, .slice none 0 0, .slice none 0 0, .slice none 0 0] := by
    have h := Blk.new (w.alloc (.cells #[.int .i64 9, .int .i64 nd, .int .i64 nn, .slice A1 n1 c1, .slice A2 n2 c2, .slice A3 n3 c3] 31)) 31 #[.int .i64 0, .int .i64 0, .int .i64 0, .slice none 0 0, .slice none 0 0, .slice none 0 0]
    rw [World.size_alloc] at h
    rw [← hW0]; exact h.alloc _
  have b3 : Blk W0 (w.heap.size + 1 + 1) 31 #[.int .i64 9, .int .i64 0, .int .i64 0, .slice none 0 0, .slice none 0 0, .slice none 0 0] := by
    have h := Blk.new ((w.alloc (.cells #[.int .i64 9, .int .i64 nd, .int .i64 nn, .slice A1 n1 c1, .slice A2 n2 c2, .slice A3 n3 c3] 31)).alloc (.cells #[.int .i64 0, .int .i64 0, .int .i64 0, .slice none 0 0, .slice none 0 0, .slice none 0 0] 31)) 31 #[.int .i64 9, .int .i64 0, .int .i64 0, .slice none 0 0, .slice none 0 0, .slice none 0 0]
    rw [World.size_alloc, World.size_alloc] at h
    rw [← hW0]; exact h
  have g0 : w.grownBy W0 none := by rw [← hW0]; exact grown_trans (grown_trans (World.grownBy_alloc w _ none) (World.grownBy_alloc _ _ none)) (World.grownBy_alloc _ _ none)
  clear hW0
  have y1 : W0.cell? ⟨w.heap.size + 1 + 1, 1, none⟩ = some (.int .i64 0) := b3.cell 1
  have f1 := b3.frozen 1
  have y5 : W0.cell? ⟨w.heap.size + 1 + 1, 5, none⟩ = some (.slice none 0 0) := b3.cell 5
  have f5 := b3.frozen 5
  have HB := Lib.hid (And.intro b2 (And.intro b3 g0))
  refine wp_region_held_drew (S := fun V => V.cell? ⟨w.heap.size, 1, none⟩ = some (.int .i64 nd) ∧ V.cell? ⟨w.heap.size, 5, none⟩ = some (.slice A3 n3 c3)) (by kernel_rfl) ⟨b1.cell 1, b1.cell 5⟩ (fun hHeld => ?_)
  clear b1 b2 b3 g0
  refine wpAnyH_take (i := 0) (oi := _) (v := ?vk90) rfl (by kernel_rfl) (by kernel_rfl) (by kernel_rfl) (fun _ _ _ h => h) (Or.inl ⟨by rfl, ?hyk90⟩) (by assumption) ?restk90
  case hyk90 => (intro V hSw; (try dsimp only at hSw); go_simp) <;> with_reducible rfl
  try simp only [Act.put, List.getElem_toArray, List.getElem_cons_succ, List.getElem_cons_zero, List.setIfInBounds_toArray, List.set_cons_zero, List.set_cons_succ]
  refine wpAnyH_take (i := 1) (oi := _) (v := ?vk91) rfl (by kernel_rfl) (by kernel_rfl) (by kernel_rfl) (fun _ _ _ h => h) (Or.inl ⟨by rfl, ?hyk91⟩) (by assumption) ?restk91
  case hyk91 => (intro V hSw; (try dsimp only at hSw); go_simp) <;> with_reducible rfl
  try simp only [Act.put, List.getElem_toArray, List.getElem_cons_succ, List.getElem_cons_zero, List.setIfInBounds_toArray, List.set_cons_zero, List.set_cons_succ]
  refine wpAnyH_take (i := 2) (oi := _) (v := ?vk92) rfl (by kernel_rfl) (by kernel_rfl) (by kernel_rfl) (fun _ _ _ h => h) (Or.inl ⟨by rfl, ?hyk92⟩) (by assumption) ?restk92
  case hyk92 => (intro V hSw; (try dsimp only at hSw); go_simp) <;> with_reducible rfl
  try simp only [Act.put, List.getElem_toArray, List.getElem_cons_succ, List.getElem_cons_zero, List.setIfInBounds_toArray, List.set_cons_zero, List.set_cons_succ]
  refine wpAnyH_take (i := 3) (oi := _) (v := ?vk93) rfl (by kernel_rfl) (by kernel_rfl) (by kernel_rfl) (fun _ _ _ h => h) (Or.inl ⟨by rfl, ?hyk93⟩) (by assumption) ?restk93
  case hyk93 => (intro V hSw; (try dsimp only at hSw); go_simp) <;> with_reducible rfl
  try simp only [Act.put, List.getElem_toArray, List.getElem_cons_succ, List.getElem_cons_zero, List.setIfInBounds_toArray, List.set_cons_zero, List.set_cons_succ]
  refine wpAnyH_take (i := 4) (oi := _) (v := ?vk94) rfl (by kernel_rfl) (by kernel_rfl) (by kernel_rfl) (fun _ _ _ h => h) (Or.inl ⟨by rfl, ?hyk94⟩) (by assumption) ?restk94
  case hyk94 => (intro V hSw; (try dsimp only at hSw); go_simp) <;> with_reducible rfl
  try simp only [Act.put, List.getElem_toArray, List.getElem_cons_succ, List.getElem_cons_zero, List.setIfInBounds_toArray, List.set_cons_zero, List.set_cons_succ]
  refine wpAnyH_ready (rs := [5]) (by kernel_rfl) (by simp) ?_
  refine (AllReadyH.cons (o := _) rfl (fun K9 hK => ?_) AllReadyH.nil)
  go_simp
  refine hK.out _ _ ⟨(World.cell?_setCell_far _ _ _ _ (by simp only [ne_eq]; omega)).trans hHeld.1, (World.cell?_setCell_far _ _ _ _ (by simp only [ne_eq]; omega)).trans hHeld.2⟩ (fun hHeld => ?_)
  clear hK K9
  try simp only [Act.put, List.getElem_toArray, List.getElem_cons_succ, List.getElem_cons_zero, List.setIfInBounds_toArray, List.set_cons_zero, List.set_cons_succ]
  refine wpAnyH_take (i := 6) (oi := _) (v := ?vk96) rfl (by kernel_rfl) (by kernel_rfl) (by kernel_rfl) (fun _ _ _ h => h) (Or.inl ⟨by rfl, ?hyk96⟩) (by assumption) ?restk96
  case hyk96 => (intro V hSw; (try dsimp only at hSw); go_simp) <;> with_reducible rfl
  try simp only [Act.put, List.getElem_toArray, List.getElem_cons_succ, List.getElem_cons_zero, List.setIfInBounds_toArray, List.set_cons_zero, List.set_cons_succ]
  refine wpAnyH_ready (rs := [7]) (by kernel_rfl) (by simp) ?_
  refine (AllReadyH.cons (o := _) rfl (fun K9 hK => ?_) AllReadyH.nil)
  go_simp
  refine hK.out _ _ ⟨(World.cell?_setCell_far _ _ _ _ (by simp only [ne_eq]; omega)).trans hHeld.1, (World.cell?_setCell_far _ _ _ _ (by simp only [ne_eq]; omega)).trans hHeld.2⟩ (fun hHeld => ?_)
  clear hK K9
  try simp only [Act.put, List.getElem_toArray, List.getElem_cons_succ, List.getElem_cons_zero, List.setIfInBounds_toArray, List.set_cons_zero, List.set_cons_succ]
  refine wpAnyH_done (by kernel_rfl) ?_ _
  obtain ⟨W1, hW1⟩ : ∃ W1, ((W0.setCell ⟨w.heap.size + 1 + 1, 1, none⟩ (.int .i64 nd)).setCell ⟨w.heap.size + 1 + 1, 5, none⟩ (.slice A3 n3 c3)).drew = W1 := ⟨_, rfl⟩
  have b3 : Blk W1 (w.heap.size + 1 + 1) 31 #[.int .i64 9, .int .i64 nd, .int .i64 0, .slice none 0 0, .slice none 0 0, .slice A3 n3 c3] := by rw [← hW1]; exact ((HB.out.2.1.set 1 (.int .i64 nd)).set 5 (.slice A3 n3 c3)).drew
  have b2 : Blk W1 (w.heap.size + 1) 31 #[.int .i64 0, .int .i64 0, .int .i64 0, .slice none 0 0, .slice none 0 0, .slice none 0 0] := by rw [← hW1]; exact ((HB.out.1.far (by simp only [ne_eq]; omega) _).far (by simp only [ne_eq]; omega) _).drew
  have g1 : w.grownBy W1 none := by rw [← hW1]; exact grown_drew (grown_cell (grown_cell HB.out.2.2 _ (by omega)) _ (by omega))
  rw [hW1]
  have z0 : W1.cell? ⟨w.heap.size + 1 + 1, 0, none⟩ = some (.int .i64 9) := b3.cell 0
  have x0 : W1.cell? ⟨w.heap.size + 1, 0, none⟩ = some (.int .i64 0) := b2.cell 0
  have q0 := b2.frozen 0
  have z1 : W1.cell? ⟨w.heap.size + 1 + 1, 1, none⟩ = some (.int .i64 nd) := b3.cell 1
  have x1 : W1.cell? ⟨w.heap.size + 1, 1, none⟩ = some (.int .i64 0) := b2.cell 1
  have q1 := b2.frozen 1
  have z2 : W1.cell? ⟨w.heap.size + 1 + 1, 2, none⟩ = some (.int .i64 0) := b3.cell 2
  have x2 : W1.cell? ⟨w.heap.size + 1, 2, none⟩ = some (.int .i64 0) := b2.cell 2
  have q2 := b2.frozen 2
  have z3 : W1.cell? ⟨w.heap.size + 1 + 1, 3, none⟩ = some (.slice none 0 0) := b3.cell 3
  have x3 : W1.cell? ⟨w.heap.size + 1, 3, none⟩ = some (.slice none 0 0) := b2.cell 3
  have q3 := b2.frozen 3
  have z4 : W1.cell? ⟨w.heap.size + 1 + 1, 4, none⟩ = some (.slice none 0 0) := b3.cell 4
  have x4 : W1.cell? ⟨w.heap.size + 1, 4, none⟩ = some (.slice none 0 0) := b2.cell 4
  have q4 := b2.frozen 4
  have z5 : W1.cell? ⟨w.heap.size + 1 + 1, 5, none⟩ = some (.slice A3 n3 c3) := b3.cell 5
  have x5 : W1.cell? ⟨w.heap.size + 1, 5, none⟩ = some (.slice none 0 0) := b2.cell 5
  have q5 := b2.frozen 5
  have HB1 := Lib.hid (And.intro b2 g1)
  clear b2 b3 g1 hW1 hHeld y1 f1 y5 f5
  go_wp2_with fail
  refine bodyPost_ret (results_cellS rfl _ _ _ ⟨w.heap.size + 1, 0, none⟩ _ rfl (load_sixR (op_stored HB1.out.1 rfl _ _ _ _ _ _))) rfl ?_
  exact ⟨rfl, op_grown HB1.out.2 (by omega) _ _ _ _ _ _⟩
set_option maxRecDepth 100000 in
set_option maxHeartbeats 2000000 in
theorem plain_t10 (w : World) (nd nn : Int) (n1 n2 n3 : Nat) (A1 A2 A3 : Option Addr) (c1 c2 c3 : Nat) :
    Calls Tryz.prog 6 #[.agg #[.int .i64 10, .int .i64 nd, .int .i64 nn, .slice A1 n1 c1, .slice A2 n2 c2, .slice A3 n3 c3]] w fun e w' => e = .returned (.agg #[.int .i64 10, .int .i64 nd, .int .i64 nn, .slice none 0 0, .slice none 0 0, .slice A3 n3 c3]) ∧ w.grownBy w' none := by
  go_enter Tryz.func6, Tryz.ntmps6
  go_upto_region 19 with (fail)
  obtain ⟨W0, hW0⟩ : ∃ W0, ((w.alloc (.cells #[.int .i64 10, .int .i64 nd, .int .i64 nn, .slice A1 n1 c1, .slice A2 n2 c2, .slice A3 n3 c3] 31)).alloc (.cells #[.int .i64 0, .int .i64 0, .int .i64 0, .slice none 0 0, .slice none 0 0, .slice none 0 0] 31)).alloc (.cells #[.int .i64 10, .int .i64 0, .int .i64 0, .slice none 0 0, .slice none 0 0, .slice none 0 0] 31) = W0 := ⟨_, rfl⟩
  rw [hW0]
  have b1 : Blk W0 w.heap.size 31 #[.int .i64 10, .int .i64 nd, .int .i64 nn, .slice A1 n1 c1, .slice A2 n2 c2, .slice A3 n3 c3] := by rw [← hW0]; exact ((Blk.new w _ _).alloc _).alloc _
  have b2 : Blk W0 (w.heap.size + 1) 31 #[.int .i64 0, .int .i64 0, .int .i64 0, .slice none 0 0, .slice none 0 0, .slice none 0 0] := by
    have h := Blk.new (w.alloc (.cells #[.int .i64 10, .int .i64 nd, .int .i64 nn, .slice A1 n1 c1, .slice A2 n2 c2, .slice A3 n3 c3] 31)) 31 #[.int .i64 0, .int .i64 0, .int .i64 0, .slice none 0 0, .slice none 0 0, .slice none 0 0]
    rw [World.size_alloc] at h
    rw [← hW0]; exact h.alloc _
  have b3 : Blk W0 (w.heap.size + 1 + 1) 31 #[.int .i64 10, .int .i64 0, .int .i64 0, .slice none 0 0, .slice none 0 0, .slice none 0 0] := by
    have h := Blk.new ((w.alloc (.cells #[.int .i64 10, .int .i64 nd, .int .i64 nn, .slice A1 n1 c1, .slice A2 n2 c2, .slice A3 n3 c3] 31)).alloc (.cells #[.int .i64 0, .int .i64 0, .int .i64 0, .slice none 0 0, .slice none 0 0, .slice none 0 0] 31)) 31 #[.int .i64 10, .int .i64 0, .int .i64 0, .slice none 0 0, .slice none 0 0, .slice none 0 0]
    rw [World.size_alloc, World.size_alloc] at h
    rw [← hW0]; exact h
  have g0 : w.grownBy W0 none := by rw [← hW0]; exact grown_trans (grown_trans (World.grownBy_alloc w _ none) (World.grownBy_alloc _ _ none)) (World.grownBy_alloc _ _ none)
  clear hW0
  have y1 : W0.cell? ⟨w.heap.size + 1 + 1, 1, none⟩ = some (.int .i64 0) := b3.cell 1
  have f1 := b3.frozen 1
  have y2 : W0.cell? ⟨w.heap.size + 1 + 1, 2, none⟩ = some (.int .i64 0) := b3.cell 2
  have f2 := b3.frozen 2
  have y5 : W0.cell? ⟨w.heap.size + 1 + 1, 5, none⟩ = some (.slice none 0 0) := b3.cell 5
  have f5 := b3.frozen 5
  have HB := Lib.hid (And.intro b2 (And.intro b3 g0))
  refine wp_region_held_drew (S := fun V => V.cell? ⟨w.heap.size, 1, none⟩ = some (.int .i64 nd) ∧ V.cell? ⟨w.heap.size, 2, none⟩ = some (.int .i64 nn) ∧ V.cell? ⟨w.heap.size, 5, none⟩ = some (.slice A3 n3 c3)) (by kernel_rfl) ⟨b1.cell 1, b1.cell 2, b1.cell 5⟩ (fun hHeld => ?_)
  clear b1 b2 b3 g0
  refine wpAnyH_take (i := 0) (oi := _) (v := ?vk100) rfl (by kernel_rfl) (by kernel_rfl) (by kernel_rfl) (fun _ _ _ h => h) (Or.inl ⟨by rfl, ?hyk100⟩) (by assumption) ?restk100
  case hyk100 => (intro V hSw; (try dsimp only at hSw); go_simp) <;> with_reducible rfl
  try simp only [Act.put, List.getElem_toArray, List.getElem_cons_succ, List.getElem_cons_zero, List.setIfInBounds_toArray, List.set_cons_zero, List.set_cons_succ]
  refine wpAnyH_take (i := 1) (oi := _) (v := ?vk101) rfl (by kernel_rfl) (by kernel_rfl) (by kernel_rfl) (fun _ _ _ h => h) (Or.inl ⟨by rfl, ?hyk101⟩) (by assumption) ?restk101
  case hyk101 => (intro V hSw; (try dsimp only at hSw); go_simp) <;> with_reducible rfl
  try simp only [Act.put, List.getElem_toArray, List.getElem_cons_succ, List.getElem_cons_zero, List.setIfInBounds_toArray, List.set_cons_zero, List.set_cons_succ]
  refine wpAnyH_take (i := 2) (oi := _) (v := ?vk102) rfl (by kernel_rfl) (by kernel_rfl) (by kernel_rfl) (fun _ _ _ h => h) (Or.inl ⟨by rfl, ?hyk102⟩) (by assumption) ?restk102
  case hyk102 => (intro V hSw; (try dsimp only at hSw); go_simp) <;> with_reducible rfl
  try simp only [Act.put, List.getElem_toArray, List.getElem_cons_succ, List.getElem_cons_zero, List.setIfInBounds_toArray, List.set_cons_zero, List.set_cons_succ]
  refine wpAnyH_take (i := 3) (oi := _) (v := ?vk103) rfl (by kernel_rfl) (by kernel_rfl) (by kernel_rfl) (fun _ _ _ h => h) (Or.inl ⟨by rfl, ?hyk103⟩) (by assumption) ?restk103
  case hyk103 => (intro V hSw; (try dsimp only at hSw); go_simp) <;> with_reducible rfl
  try simp only [Act.put, List.getElem_toArray, List.getElem_cons_succ, List.getElem_cons_zero, List.setIfInBounds_toArray, List.set_cons_zero, List.set_cons_succ]
  refine wpAnyH_take (i := 4) (oi := _) (v := ?vk104) rfl (by kernel_rfl) (by kernel_rfl) (by kernel_rfl) (fun _ _ _ h => h) (Or.inl ⟨by rfl, ?hyk104⟩) (by assumption) ?restk104
  case hyk104 => (intro V hSw; (try dsimp only at hSw); go_simp) <;> with_reducible rfl
  try simp only [Act.put, List.getElem_toArray, List.getElem_cons_succ, List.getElem_cons_zero, List.setIfInBounds_toArray, List.set_cons_zero, List.set_cons_succ]
  refine wpAnyH_take (i := 5) (oi := _) (v := ?vk105) rfl (by kernel_rfl) (by kernel_rfl) (by kernel_rfl) (fun _ _ _ h => h) (Or.inl ⟨by rfl, ?hyk105⟩) (by assumption) ?restk105
  case hyk105 => (intro V hSw; (try dsimp only at hSw); go_simp) <;> with_reducible rfl
  try simp only [Act.put, List.getElem_toArray, List.getElem_cons_succ, List.getElem_cons_zero, List.setIfInBounds_toArray, List.set_cons_zero, List.set_cons_succ]
  refine wpAnyH_take (i := 6) (oi := _) (v := ?vk106) rfl (by kernel_rfl) (by kernel_rfl) (by kernel_rfl) (fun _ _ _ h => h) (Or.inl ⟨by rfl, ?hyk106⟩) (by assumption) ?restk106
  case hyk106 => (intro V hSw; (try dsimp only at hSw); go_simp) <;> with_reducible rfl
  try simp only [Act.put, List.getElem_toArray, List.getElem_cons_succ, List.getElem_cons_zero, List.setIfInBounds_toArray, List.set_cons_zero, List.set_cons_succ]
  refine wpAnyH_ready (rs := [7]) (by kernel_rfl) (by simp) ?_
  refine (AllReadyH.cons (o := _) rfl (fun K9 hK => ?_) AllReadyH.nil)
  go_simp
  refine hK.out _ _ ⟨(World.cell?_setCell_far _ _ _ _ (by simp only [ne_eq]; omega)).trans hHeld.1, (World.cell?_setCell_far _ _ _ _ (by simp only [ne_eq]; omega)).trans hHeld.2.1, (World.cell?_setCell_far _ _ _ _ (by simp only [ne_eq]; omega)).trans hHeld.2.2⟩ (fun hHeld => ?_)
  clear hK K9
  try simp only [Act.put, List.getElem_toArray, List.getElem_cons_succ, List.getElem_cons_zero, List.setIfInBounds_toArray, List.set_cons_zero, List.set_cons_succ]
  refine wpAnyH_take (i := 8) (oi := _) (v := ?vk108) rfl (by kernel_rfl) (by kernel_rfl) (by kernel_rfl) (fun _ _ _ h => h) (Or.inl ⟨by rfl, ?hyk108⟩) (by assumption) ?restk108
  case hyk108 => (intro V hSw; (try dsimp only at hSw); go_simp) <;> with_reducible rfl
  try simp only [Act.put, List.getElem_toArray, List.getElem_cons_succ, List.getElem_cons_zero, List.setIfInBounds_toArray, List.set_cons_zero, List.set_cons_succ]
  refine wpAnyH_ready (rs := [9]) (by kernel_rfl) (by simp) ?_
  refine (AllReadyH.cons (o := _) rfl (fun K9 hK => ?_) AllReadyH.nil)
  go_simp
  refine hK.out _ _ ⟨(World.cell?_setCell_far _ _ _ _ (by simp only [ne_eq]; omega)).trans hHeld.1, (World.cell?_setCell_far _ _ _ _ (by simp only [ne_eq]; omega)).trans hHeld.2.1, (World.cell?_setCell_far _ _ _ _ (by simp only [ne_eq]; omega)).trans hHeld.2.2⟩ (fun hHeld => ?_)
  clear hK K9
  try simp only [Act.put, List.getElem_toArray, List.getElem_cons_succ, List.getElem_cons_zero, List.setIfInBounds_toArray, List.set_cons_zero, List.set_cons_succ]
  refine wpAnyH_take (i := 10) (oi := _) (v := ?vk1010) rfl (by kernel_rfl) (by kernel_rfl) (by kernel_rfl) (fun _ _ _ h => h) (Or.inl ⟨by rfl, ?hyk1010⟩) (by assumption) ?restk1010
  case hyk1010 => (intro V hSw; (try dsimp only at hSw); go_simp) <;> with_reducible rfl
  try simp only [Act.put, List.getElem_toArray, List.getElem_cons_succ, List.getElem_cons_zero, List.setIfInBounds_toArray, List.set_cons_zero, List.set_cons_succ]
  refine wpAnyH_ready (rs := [11]) (by kernel_rfl) (by simp) ?_
  refine (AllReadyH.cons (o := _) rfl (fun K9 hK => ?_) AllReadyH.nil)
  go_simp
  refine hK.out _ _ ⟨(World.cell?_setCell_far _ _ _ _ (by simp only [ne_eq]; omega)).trans hHeld.1, (World.cell?_setCell_far _ _ _ _ (by simp only [ne_eq]; omega)).trans hHeld.2.1, (World.cell?_setCell_far _ _ _ _ (by simp only [ne_eq]; omega)).trans hHeld.2.2⟩ (fun hHeld => ?_)
  clear hK K9
  try simp only [Act.put, List.getElem_toArray, List.getElem_cons_succ, List.getElem_cons_zero, List.setIfInBounds_toArray, List.set_cons_zero, List.set_cons_succ]
  refine wpAnyH_done (by kernel_rfl) ?_ _
  obtain ⟨W1, hW1⟩ : ∃ W1, (((W0.setCell ⟨w.heap.size + 1 + 1, 1, none⟩ (.int .i64 nd)).setCell ⟨w.heap.size + 1 + 1, 2, none⟩ (.int .i64 nn)).setCell ⟨w.heap.size + 1 + 1, 5, none⟩ (.slice A3 n3 c3)).drew = W1 := ⟨_, rfl⟩
  have b3 : Blk W1 (w.heap.size + 1 + 1) 31 #[.int .i64 10, .int .i64 nd, .int .i64 nn, .slice none 0 0, .slice none 0 0, .slice A3 n3 c3] := by rw [← hW1]; exact (((HB.out.2.1.set 1 (.int .i64 nd)).set 2 (.int .i64 nn)).set 5 (.slice A3 n3 c3)).drew
  have b2 : Blk W1 (w.heap.size + 1) 31 #[.int .i64 0, .int .i64 0, .int .i64 0, .slice none 0 0, .slice none 0 0, .slice none 0 0] := by rw [← hW1]; exact (((HB.out.1.far (by simp only [ne_eq]; omega) _).far (by simp only [ne_eq]; omega) _).far (by simp only [ne_eq]; omega) _).drew
  have g1 : w.grownBy W1 none := by rw [← hW1]; exact grown_drew (grown_cell (grown_cell (grown_cell HB.out.2.2 _ (by omega)) _ (by omega)) _ (by omega))
  rw [hW1]
  have z0 : W1.cell? ⟨w.heap.size + 1 + 1, 0, none⟩ = some (.int .i64 10) := b3.cell 0
  have x0 : W1.cell? ⟨w.heap.size + 1, 0, none⟩ = some (.int .i64 0) := b2.cell 0
  have q0 := b2.frozen 0
  have z1 : W1.cell? ⟨w.heap.size + 1 + 1, 1, none⟩ = some (.int .i64 nd) := b3.cell 1
  have x1 : W1.cell? ⟨w.heap.size + 1, 1, none⟩ = some (.int .i64 0) := b2.cell 1
  have q1 := b2.frozen 1
  have z2 : W1.cell? ⟨w.heap.size + 1 + 1, 2, none⟩ = some (.int .i64 nn) := b3.cell 2
  have x2 : W1.cell? ⟨w.heap.size + 1, 2, none⟩ = some (.int .i64 0) := b2.cell 2
  have q2 := b2.frozen 2
  have z3 : W1.cell? ⟨w.heap.size + 1 + 1, 3, none⟩ = some (.slice none 0 0) := b3.cell 3
  have x3 : W1.cell? ⟨w.heap.size + 1, 3, none⟩ = some (.slice none 0 0) := b2.cell 3
  have q3 := b2.frozen 3
  have z4 : W1.cell? ⟨w.heap.size + 1 + 1, 4, none⟩ = some (.slice none 0 0) := b3.cell 4
  have x4 : W1.cell? ⟨w.heap.size + 1, 4, none⟩ = some (.slice none 0 0) := b2.cell 4
  have q4 := b2.frozen 4
  have z5 : W1.cell? ⟨w.heap.size + 1 + 1, 5, none⟩ = some (.slice A3 n3 c3) := b3.cell 5
  have x5 : W1.cell? ⟨w.heap.size + 1, 5, none⟩ = some (.slice none 0 0) := b2.cell 5
  have q5 := b2.frozen 5
  have HB1 := Lib.hid (And.intro b2 g1)
  clear b2 b3 g1 hW1 hHeld y1 f1 y2 f2 y5 f5
  go_wp2_with fail
  refine bodyPost_ret (results_cellS rfl _ _ _ ⟨w.heap.size + 1, 0, none⟩ _ rfl (load_sixR (op_stored HB1.out.1 rfl _ _ _ _ _ _))) rfl ?_
  exact ⟨rfl, op_grown HB1.out.2 (by omega) _ _ _ _ _ _⟩
set_option maxRecDepth 100000 in
set_option maxHeartbeats 2000000 in
theorem plain_t0 (w : World) (K nd nn : Int) (hK : ¬ (1 ≤ K ∧ K ≤ 10)) (n1 n2 n3 : Nat) (A1 A2 A3 : Option Addr) (c1 c2 c3 : Nat) :
    Calls Tryz.prog 6 #[.agg #[.int .i64 K, .int .i64 nd, .int .i64 nn, .slice A1 n1 c1, .slice A2 n2 c2, .slice A3 n3 c3]] w fun e w' => e = .returned (.agg #[.int .i64 K, .int .i64 0, .int .i64 0, .slice none 0 0, .slice none 0 0, .slice none 0 0]) ∧ w.grownBy w' none := by
  have e1 : (K == 1) = false := by simp only [beq_eq_false_iff_ne, ne_eq]; omega
  have e2 : (K == 2) = false := by simp only [beq_eq_false_iff_ne, ne_eq]; omega
  have e3 : (K == 3) = false := by simp only [beq_eq_false_iff_ne, ne_eq]; omega
  have e4 : (K == 4) = false := by simp only [beq_eq_false_iff_ne, ne_eq]; omega
  have e5 : (K == 5) = false := by simp only [beq_eq_false_iff_ne, ne_eq]; omega
  have e6 : (K == 6) = false := by simp only [beq_eq_false_iff_ne, ne_eq]; omega
  have e7 : (K == 7) = false := by simp only [beq_eq_false_iff_ne, ne_eq]; omega
  have e8 : (K == 8) = false := by simp only [beq_eq_false_iff_ne, ne_eq]; omega
  have e9 : (K == 9) = false := by simp only [beq_eq_false_iff_ne, ne_eq]; omega
  have e10 : (K == 10) = false := by simp only [beq_eq_false_iff_ne, ne_eq]; omega
  clear hK
  go_enter Tryz.func6, Tryz.ntmps6
  go_wp2_with fail
  have h := Blk.new (w.alloc (.cells #[.int .i64 K, .int .i64 nd, .int .i64 nn, .slice A1 n1 c1, .slice A2 n2 c2, .slice A3 n3 c3] 31)) 31 #[.int .i64 K, .int .i64 0, .int .i64 0, .slice none 0 0, .slice none 0 0, .slice none 0 0]
  rw [World.size_alloc] at h
  refine bodyPost_ret (results_cellS rfl _ _ _ ⟨w.heap.size + 1, 0, none⟩ _ rfl (load_sixR (h.alloc _))) rfl ?_
  exact ⟨rfl, grown_trans (grown_trans (World.grownBy_alloc w _ none) (World.grownBy_alloc _ _ none)) (World.grownBy_alloc _ _ none)⟩
/-- Plain. -/
theorem rplain_is (w : World) (x : OpM) : Calls Tryz.prog 6 #[.agg x.val] w fun e w' => e = .returned (.agg (plainM x).val) ∧ w.grownBy w' none := by
  obtain ⟨⟨kk, nd, nn, st, kp, dt⟩, A1, c1, A2, c2, A3, c3⟩ := x
  rcases shape_cases kk with (rfl | rfl | rfl | rfl | rfl | rfl | rfl | rfl | rfl | rfl) | ⟨hk, h2⟩
  · exact plain_t1 w nd nn st.length kp.length dt.length A1 A2 A3 c1 c2 c3
  · exact plain_t2 w nd nn st.length kp.length dt.length A1 A2 A3 c1 c2 c3
  · exact plain_t3 w nd nn st.length kp.length dt.length A1 A2 A3 c1 c2 c3
  · exact plain_t4 w nd nn st.length kp.length dt.length A1 A2 A3 c1 c2 c3
  · exact plain_t5 w nd nn st.length kp.length dt.length A1 A2 A3 c1 c2 c3
  · exact plain_t6 w nd nn st.length kp.length dt.length A1 A2 A3 c1 c2 c3
  · exact plain_t7 w nd nn st.length kp.length dt.length A1 A2 A3 c1 c2 c3
  · exact plain_t8 w nd nn st.length kp.length dt.length A1 A2 A3 c1 c2 c3
  · exact plain_t9 w nd nn st.length kp.length dt.length A1 A2 A3 c1 c2 c3
  · exact plain_t10 w nd nn st.length kp.length dt.length A1 A2 A3 c1 c2 c3
  · have h := plain_t0 w kk nd nn hk st.length kp.length dt.length A1 A2 A3 c1 c2 c3
    have e : (plainM ⟨⟨kk, nd, nn, st, kp, dt⟩, A1, c1, A2, c2, A3, c3⟩).val = #[.int .i64 kk, .int .i64 0, .int .i64 0, .slice none 0 0, .slice none 0 0, .slice none 0 0] := by
      unfold plainM OpM.val plainS
      simp only [h2]
      rfl
    rw [e]; exact h
theorem plainM_at {w : World} {x : OpM} (h : x.At w) : (plainM x).At w := by
  obtain ⟨⟨kk, nd, nn, st, kp, dt⟩, A1, c1, A2, c2, A3, c3⟩ := x
  obtain ⟨h1, h2, h3⟩ := h
  rcases shape_cases kk with (rfl | rfl | rfl | rfl | rfl | rfl | rfl | rfl | rfl | rfl) | ⟨hk, hs⟩
  iterate 10
    · refine ⟨?_, ?_, ?_⟩
      · first | exact h1 | exact fun h => absurd rfl h
      · first | exact h2 | exact fun h => absurd rfl h
      · first | exact h3 | exact fun h => absurd rfl h
  · have e : plainS ⟨kk, nd, nn, st, kp, dt⟩ = ⟨kk, 0, 0, [], [], []⟩ := by unfold plainS; simp only [hs]; rfl
    refine ⟨?_, ?_, ?_⟩
    · exact fun h => absurd (by show (plainS _).set = []; rw [e]) h
    · exact fun h => absurd (by show (plainS _).keep = []; rw [e]) h
    · exact fun h => absurd (by show (plainS _).data = []; rw [e]) h
/-- What Right asks of an op with what belongs to its kind alone. -/
def rightR (v : OpV) : Prop := 1 ≤ v.kind ∧ v.kind ≤ 10 ∧ (0 ≤ v.n ∧ v.n ≤ 999999) ∧ (0 ≤ v.node ∧ v.node ≤ 999999) ∧ v.set.length ≤ 7 ∧ v.keep.length ≤ 64 ∧ ∀ z ∈ v.set, 0 ≤ z ∧ z ≤ 999999
theorem right_iff (v : OpV) : rightS v ↔ rightR (plainS v) := by
  obtain ⟨kk, nd, nn, st, kp, dt⟩ := v
  rcases shape_cases kk with (rfl | rfl | rfl | rfl | rfl | rfl | rfl | rfl | rfl | rfl) | ⟨hk, hs⟩
  iterate 10 · simp [rightS, rightR, plainS, shapeS, putPart, partOk, OpV.zero]; try omega
  · have e : plainS ⟨kk, nd, nn, st, kp, dt⟩ = ⟨kk, 0, 0, [], [], []⟩ := by unfold plainS; simp only [hs]; rfl
    rw [e]
    constructor
    · intro h; exact absurd (by show (shapeS kk).1 = []; rw [hs]) h.1
    · intro h; exact absurd ⟨h.1, h.2.1⟩ hk
end Go.Proofs.YtonkdcbmmdhjgaaGreatDoor
