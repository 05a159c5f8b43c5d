/-
  Package turns: Turn, by its range over From.
-/
import Derived.WalkKit
import Derived.Test.YticpjbpfkkaobaaDoorTuSeq
import Derived.Test.YticpjbpfkkaobaaDoorEv
namespace Go.Proofs.YticpjbpfkkaobaaDoor
open Go.RowKit Go.Shelf

attribute [local go_sem] Oper.semAt_some

theorem from_in' (F : Fence) (m : Nat) (n r : Int) (w : World) (h : F = Fence.wide) : CallsIn F m Tryd.prog 18 #[.int .i64 n, .int .i64 r] w fun e w' => e = .returned (.func (.func 21) #[] #[.pointer (some ⟨w.heap.size + 1, 0, none⟩), .pointer (some ⟨w.heap.size, 0, none⟩)]) ∧
      w' = (w.alloc (.cells #[.int .i64 n] 3)).alloc (.cells #[.int .i64 r] 3) := by
  subst h
  exact from_in m n r w

theorem circle_in (F : Fence) (m : Nat) (w : World) (n : Int) (h : F = Fence.wide) : CallsIn F m Tryd.prog 16 #[.int .i64 n] w fun e w' => e = .returned (.bool (inCircle n)) ∧ w = w' := by
  subst h
  exact callsIn_wide.2 (circle_is w n)

set_option maxRecDepth 100000 in
set_option maxHeartbeats 2000000 in
theorem turn_good (w : World) (B : Nat) (a : Addr) (n who r : Int) (he : ErrAt w B 0 a) (hB : B ≤ w.heap.size) (hc : inCircle n = true) (hw0 : 0 ≤ who) (hwn : who < n) (hr : 0 ≤ r) :
    Calls Tryd.prog 14 #[.int .i64 n, .int .i64 who, .int .i64 r] w fun e w' =>
      ((∃ k : Nat, r + (k : Int) ≤ 1099511627776 ∧ leaderOf n (r + k) = who ∧ (∀ j : Nat, j < k → leaderOf n (r + j) ≠ who) ∧ e = .returned (.tuple #[.int .i64 (r + k), .nilIface])) ∨
       ((∀ k : Nat, r + (k : Int) ≤ 1099511627776 → leaderOf n (r + k) ≠ who) ∧ e = .returned (.tuple #[.int .i64 0, errV a]))) ∧ Below w.heap.size w w' := by
  refine (callsIn_wide (n := 5)).1 ?_
  have d1 : decide (who < (0 : Int)) = false := by simp; omega
  have d2 : decide (n ≤ who) = false := by simp; omega
  have d3 : decide (r < (0 : Int)) = false := by simp; omega
  have hro : Fence.wide.round = none := rfl
  refine callsIn_of_wp_marks Tryd.func14 rfl trivial ?_ rfl
  simp only [Tryd.ntmps14, List.size_toArray, List.length_cons, List.length_nil, Nat.reduceAdd, Nat.reduceSub, Array.replicate_succ, Array.replicate_zero, List.push_toArray, List.append_toArray, List.nil_append, List.cons_append]
  gi_wp2
  refine ⟨trivial, ?_⟩
  refine (circle_in _ _ _ _ rfl).mono ?_
  rintro e w1 ⟨rfl, rfl⟩
  gi_wp2
  refine ⟨trivial, ?_⟩
  refine (from_in' _ _ _ _ _ rfl).mono ?_
  rintro e w1 ⟨rfl, rfl⟩
  gi_wp2
  have e0 : (w.alloc (.cells #[.int .i64 who] 3)).cell? ⟨w.heap.size, 0, none⟩ = some (.int .i64 who) := (Boxed.new w 3 (.int .i64 who)).cell
  have b1 := Boxed.new (w.alloc (.cells #[.int .i64 who] 3)) 3 (.int .i64 0)
  have b2 := Boxed.new ((w.alloc (.cells #[.int .i64 who] 3)).alloc (.cells #[.int .i64 0] 3)) 24 .nilIface
  have b0 := Boxed.new w 3 (.int .i64 who)
  have b3 := Boxed.new (((w.alloc (.cells #[.int .i64 who] 3)).alloc (.cells #[.int .i64 0] 3)).alloc (.cells #[.nilIface] 24)) 3 (.int .i64 n)
  have b4 := Boxed.new ((((w.alloc (.cells #[.int .i64 who] 3)).alloc (.cells #[.int .i64 0] 3)).alloc (.cells #[.nilIface] 24)).alloc (.cells #[.int .i64 n] 3)) 3 (.int .i64 r)
  rw [World.size_alloc] at b1 b2 b3 b4
  rw [World.size_alloc] at b2 b3 b4
  rw [World.size_alloc] at b3 b4
  rw [World.size_alloc] at b4
  have c0 := ((((b0.alloc (.cells #[.int .i64 0] 3)).alloc (.cells #[.nilIface] 24)).alloc (.cells #[.int .i64 n] 3)).alloc (.cells #[.int .i64 r] 3))
  have c1 := (((b1.alloc (.cells #[.nilIface] 24)).alloc (.cells #[.int .i64 n] 3)).alloc (.cells #[.int .i64 r] 3))
  have c2 := ((b2.alloc (.cells #[.int .i64 n] 3)).alloc (.cells #[.int .i64 r] 3))
  have c3 := b3.alloc (.cells #[.int .i64 r] 3)
  have hBl : Below w.heap.size w (((((w.alloc (.cells #[.int .i64 who] 3)).alloc (.cells #[.int .i64 0] 3)).alloc (.cells #[.nilIface] 24)).alloc (.cells #[.int .i64 n] 3)).alloc (.cells #[.int .i64 r] 3)) :=
    (((((Below.refl _ w).alloc (Nat.le_refl _) _).alloc (by simp) _).alloc (by simp; omega) _).alloc (by simp; omega) _).alloc (by simp; omega) _
  obtain ⟨W0, hW0⟩ : ∃ W0, (((((w.alloc (.cells #[.int .i64 who] 3)).alloc (.cells #[.int .i64 0] 3)).alloc (.cells #[.nilIface] 24)).alloc (.cells #[.int .i64 n] 3)).alloc (.cells #[.int .i64 r] 3)) = W0 := ⟨_, rfl⟩
  have hsz : W0.heap.size = w.heap.size + 5 := by rw [← hW0]; simp
  rw [hW0] at b4 c0 c1 c2 c3 hBl ⊢
  clear b0 b1 b2 b3 e0
  refine wpIn_rangeFunc_ownG rfl (by omega) (gf := 21) (lb := #[.pointer (some ⟨w.heap.size + 1 + 1 + 1 + 1, 0, none⟩), .pointer (some ⟨w.heap.size + 1 + 1 + 1, 0, none⟩)]) rfl trivial (enters_of Tryd.func21 (by kernel_rfl) rfl)
    (from_stops 4 (by omega) (w.heap.size + 1 + 1 + 1 + 1) (w.heap.size + 1 + 1 + 1) (Below W0.heap.size) (fun _ _ h => h.cell (p := ⟨w.heap.size + 1 + 1 + 1, 0, none⟩) (by dsimp only; omega)) n r hc hr W0 (by omega) (by omega) b4.cell c3.cell) belowK_t (belowK_b (Nat.le_refl _)) (Below.refl _ _) (fun _ => rfl)
    (fun pre W => ((∀ p ∈ pre, p.2 ≠ who) ∧ (W.cell? ⟨w.heap.size, 0, none⟩ = some (.int .i64 who)) ∧ (W.cell? ⟨w.heap.size + 1, 0, none⟩ = some (.int .i64 0) ∧ W.frozen? ⟨w.heap.size + 1, 0, none⟩ = false) ∧ (W.cell? ⟨w.heap.size + 1 + 1, 0, none⟩ = some .nilIface ∧ W.frozen? ⟨w.heap.size + 1 + 1, 0, none⟩ = false)) ∧ Below w.heap.size w W)
    (fun c pre W => (c = .ret ∧ ∃ ini last, pre = ini ++ [last] ∧ (∀ p ∈ ini, p.2 ≠ who) ∧ last.2 = who ∧ W.cell? ⟨w.heap.size + 1, 0, none⟩ = some (.int .i64 last.1) ∧ W.cell? ⟨w.heap.size + 1 + 1, 0, none⟩ = some .nilIface) ∧ Below w.heap.size w W)
    (OwnFrom.and (Own.from (fun s A B row hs hg hr => ⟨hs.1, cell_kept hs.2.1 hg hr, ⟨cell_kept hs.2.2.1.1 hg hr, (frozen_kept hs.2.2.1.1 hg hr).trans hs.2.2.1.2⟩, ⟨cell_kept hs.2.2.2.1 hg hr, (frozen_kept hs.2.2.2.1 hg hr).trans hs.2.2.2.2⟩⟩) _) (ownFrom_below (Nat.le_refl _) (by omega)))
    (fun c => OwnFrom.and (Own.from (fun s A B row hs hg hr => by obtain ⟨hc, ini, last, e1, e2, e3, e4, e5⟩ := hs; exact ⟨hc, ini, last, e1, e2, e3, cell_kept e4 hg hr, cell_kept e5 hg hr⟩) _) (ownFrom_below (Nat.le_refl _) (by omega)))
    ⟨⟨by simp, c0.cell, ⟨c1.cell, c1.frozen⟩, ⟨c2.cell, c2.frozen⟩⟩, hBl⟩
    (fun x => { tmps := #[.int .i64 n, .int .i64 who, .int .i64 r, undef, .pointer (some ⟨w.heap.size, 0, none⟩), undef, .pointer (some ⟨w.heap.size + 1, 0, none⟩), .pointer (some ⟨w.heap.size + 1 + 1, 0, none⟩), .int .i64 x.1, .int .i64 x.2, .int .i64 n,
      .bool true, .bool false, .bool false, .int .i64 who, .bool false, .bool false, .bool false, .int .i64 who, .int .i64 n, .bool false, .bool false, .bool false, .int .i64 r, .bool false, .bool false, undef, .int .i64 n, .int .i64 r,
      .func (.func 21) #[] #[.pointer (some ⟨w.heap.size + 1 + 1 + 1 + 1, 0, none⟩), .pointer (some ⟨w.heap.size + 1 + 1 + 1, 0, none⟩)], .int .i64 x.1, .int .i64 x.2, undef, undef, undef, undef, undef], defers := [] }) ?assign ?body ?done ?stop
  case assign =>
    intro l x W K hK
    gi_wp2
    exact hK
  case body =>
    rintro l pre x W ⟨⟨hp, h0c, ⟨h1c, h1f⟩, ⟨h2c, h2f⟩⟩, hbl⟩ _
    by_cases hx : x.2 = who
    · have dx : (x.2 == who) = true := by simpa using hx
      gi_wp2
      have n12 : (⟨w.heap.size + 1, 0, none⟩ : Addr) ≠ ⟨w.heap.size + 1 + 1, 0, none⟩ := by simp
      exact ⟨((KeepsOthers.setCell _ _ _).trans (KeepsOthers.setCell _ _ _)).from _, ⟨rfl, pre, x, rfl, hp, hx, (World.cell?_setCell_other _ _ _ _ n12.symm).trans (World.cell?_setCell_same' _ _ _ (by rw [h1c]; rfl)), World.cell?_setCell_same' _ _ _ (by rw [World.cell?_setCell_other _ _ _ _ n12, h2c]; rfl)⟩,
        (hbl.setCell (p := ⟨w.heap.size + 1, 0, none⟩) (Nat.le_add_right _ _) _).setCell (p := ⟨w.heap.size + 1 + 1, 0, none⟩) (by simp; omega) _⟩
    · have dx : (x.2 == who) = false := by simpa using hx
      gi_wp2
      exact ⟨KeepsFrom.refl _ _, Below.refl _ _, ⟨⟨fun p hp' => (List.mem_append.1 hp').elim (hp p) (fun e => by simp at e; subst e; exact hx), h0c, ⟨h1c, h1f⟩, ⟨h2c, h2f⟩⟩, hbl⟩⟩
  case done =>
    rintro D ys W hD rfl ⟨⟨hne, h0c, ⟨h1c, h1f⟩, ⟨h2c, h2f⟩⟩, hbl⟩ hK
    have he' := (he.below hbl hB).1
    gi_wp2
    gi_region
    gi_wp2
    have n12 : (⟨w.heap.size + 1, 0, none⟩ : Addr) ≠ ⟨w.heap.size + 1 + 1, 0, none⟩ := by simp
    have h1n : (((W.setCell ⟨w.heap.size + 1, 0, none⟩ (.int .i64 0)).setCell ⟨w.heap.size + 1 + 1, 0, none⟩ (errV a)).drew).cell? ⟨w.heap.size + 1, 0, none⟩ = some (.int .i64 0) :=
      (World.cell?_setCell_other _ _ _ _ n12.symm).trans (World.cell?_setCell_same' _ _ _ (by rw [h1c]; rfl))
    have h2n : (((W.setCell ⟨w.heap.size + 1, 0, none⟩ (.int .i64 0)).setCell ⟨w.heap.size + 1 + 1, 0, none⟩ (errV a)).drew).cell? ⟨w.heap.size + 1 + 1, 0, none⟩ = some (errV a) :=
      World.cell?_setCell_same' _ _ _ (by rw [World.cell?_setCell_other _ _ _ _ n12, h2c]; rfl)
    have hK' : (((W.setCell ⟨w.heap.size + 1, 0, none⟩ (.int .i64 0)).setCell ⟨w.heap.size + 1 + 1, 0, none⟩ (errV a)).drew).heap[D]? = some (.deferred (some [])) :=
      ((KeepsOthers.setCell W ⟨w.heap.size + 1, 0, none⟩ (.int .i64 0)).trans (KeepsOthers.setCell _ ⟨w.heap.size + 1 + 1, 0, none⟩ (errV a))).same D _ hK rfl
    have hbl' : Below w.heap.size w (((W.setCell ⟨w.heap.size + 1, 0, none⟩ (.int .i64 0)).setCell ⟨w.heap.size + 1 + 1, 0, none⟩ (errV a)).drew) :=
      ((hbl.setCell (p := ⟨w.heap.size + 1, 0, none⟩) (Nat.le_add_right _ _) _).setCell (p := ⟨w.heap.size + 1 + 1, 0, none⟩) (by simp; omega) _).drew
    refine ⟨by simp, .inl ⟨_, _, rfl, run_takeDeferred hK', ?_⟩⟩
    have h1' := cell_kept h1n (grownBy_putObj' _ D (.deferred none)) (fun r e => by cases e; exact ⟨_, hK', rfl⟩)
    have h2' := cell_kept h2n (grownBy_putObj' _ D (.deferred none)) (fun r e => by cases e; exact ⟨_, hK', rfl⟩)
    refine ⟨.tuple #[.int .i64 0, errV a], ?_, .inr ⟨fun k hk => hne (turnAt n r k) (by simp only [upto, List.mem_map, List.mem_range]; exact ⟨k, by omega, rfl⟩), rfl⟩, hbl'.trans (belowK_b (w := w) (Nat.le_refl _) _ D _ _ (by omega) hK' rfl rfl)⟩
    simp [results, Tryd.f14, go_sem, h1', h2']
  case stop =>
    rintro D c pre W hD ⟨k, hk, rfl⟩ ⟨⟨rfl, ini, last, e1, e2, e3, h1c, h2c⟩, hbl⟩ hK
    gi_wp2
    refine ⟨by simp, .inl ⟨_, _, rfl, run_takeDeferred hK, ?_⟩⟩
    have h1' := cell_kept h1c (grownBy_putObj' _ D (.deferred none)) (fun r e => by cases e; exact ⟨_, hK, rfl⟩)
    have h2' := cell_kept h2c (grownBy_putObj' _ D (.deferred none)) (fun r e => by cases e; exact ⟨_, hK, rfl⟩)
    obtain ⟨k', rfl⟩ : ∃ k', k = k' + 1 := by
      cases k with
      | zero => simp [upto] at e1
      | succ k' => exact ⟨k', rfl⟩
    rw [upto_succ] at e1
    obtain ⟨rfl, e5⟩ := List.append_inj' e1 rfl
    obtain rfl : turnAt n r k' = last := by simpa using e5
    refine ⟨.tuple #[.int .i64 (r + k'), .nilIface], ?_, .inl ⟨k', by omega, e3, fun j hj => e2 (turnAt n r j) (by simp only [upto, List.mem_map, List.mem_range]; exact ⟨j, hj, rfl⟩), rfl⟩, hbl.trans (belowK_b (w := w) (Nat.le_refl _) W D _ _ (by omega) hK rfl rfl)⟩
    dsimp only [turnAt] at h1'
    simp [results, Tryd.f14, go_sem, h1', h2']
end Go.Proofs.YticpjbpfkkaobaaDoor
