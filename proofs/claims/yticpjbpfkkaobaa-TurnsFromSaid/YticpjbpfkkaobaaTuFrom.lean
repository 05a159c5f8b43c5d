/-
  TurnsFrom: the walk of a range over From.
-/
import Derived.WalkKit
import Derived.Test.YticpjbpfkkaobaaTuSeq
import Derived.Test.YticpjbpfkkaobaaTuRL
import Derived.Test.YticpjbpfkkaobaaModVal
namespace Go.Proofs.Yticpjbpfkkaobaa
open Go.RowKit Go.Shelf

attribute [local go_sem] Oper.semAt_some

/-- How many rounds From(n, r) tells. -/
def turnsN (n r : Int) : Nat := if leaderOf n r = -1 then 0 else (1099511627777 - r).toNat

set_option maxRecDepth 100000 in
set_option maxHeartbeats 2000000 in
theorem from1_none (m l B1 B2 : Nat) (n r : Int) (hm : 1 ≤ m) (hl : leaderOf n r = -1) (J Jx : List (Int × Int) → World → Prop)
    (W : World) (h1 : W.cell? ⟨B1, 0, none⟩ = some (.int .i64 r)) (h2 : W.cell? ⟨B2, 0, none⟩ = some (.int .i64 n)) (h0 : J [] W) :
    CallsIn Fence.wide m Try.prog 13 #[.func (.yield l) #[] #[], .pointer (some ⟨B1, 0, none⟩), .pointer (some ⟨B2, 0, none⟩)] W fun e W' => (∃ v, e = .returned v) ∧
      ((∃ ys, ys = upto (turnAt n r) 0 ∧ J ys W') ∨ (∃ pre, (∃ k, k ≤ 0 ∧ pre = upto (turnAt n r) k) ∧ Jx pre W')) := by
  have J0 := Lib.hid h0
  clear h0
  refine callsIn_of_wp Try.func13 rfl trivial ?_ rfl
  simp only [Try.ntmps13, List.size_toArray, List.length_cons, List.length_nil, Nat.reduceAdd, Nat.reduceSub, Array.replicate_succ, Array.replicate_zero, List.push_toArray, List.append_toArray, List.nil_append, List.cons_append]
  gi_wp2
  gi_loopw [4] (fun i wr => i = .int .i64 r ∧ wr = W)
    (fun _ _ => 0)
  case atStart => exact ⟨rfl, rfl⟩
  case round =>
    obtain ⟨rfl, rfl⟩ := hrel
    by_cases hlt : r ≤ 1099511627776
    · have d1 : decide (r ≤ 1099511627776) = true := by simpa using hlt
      clear hlt
      gi_wp2
      refine ⟨trivial, ?_⟩
      refine (leader_in _ _ _ _ _ rfl).mono ?_
      rintro e w1 ⟨rfl, rfl⟩
      gi_wp2
      refine ⟨fun _ h => (by cases h), ?_⟩
      gi_wp2
      refine bodyPost_ret (results_none rfl _ _ _) rfl ?_
      exact ⟨⟨_, rfl⟩, .inl ⟨[], rfl, J0.out⟩⟩
    · have d1 : decide (r ≤ 1099511627776) = false := by simpa using hlt
      clear hlt
      gi_wp2
      go_end0
      exact ⟨⟨_, rfl⟩, .inl ⟨[], rfl, J0.out⟩⟩

theorem leaderOf_cases (n r : Int) : leaderOf n r = -1 ∨ (inCircle n = true ∧ 0 ≤ r ∧ 0 ≤ leaderOf n r) := by
  unfold leaderOf
  by_cases h : (inCircle n && decide (0 ≤ r)) = true
  · right
    rw [if_pos h]
    simp at h
    have hn : 1 ≤ n ∧ n ≤ 7 := by simpa [inCircle] using h.1
    exact ⟨h.1, h.2, Int.emod_nonneg _ (by omega)⟩
  · left; rw [if_neg h]

/-- From(n, r) as an iterator, whatever n and r are. -/
theorem from_all (m : Nat) (hm : 1 ≤ m) (B1 B2 : Nat) (Kp : World → World → Prop) (hKc : ∀ A B : World, Kp A B → B.cell? ⟨B2, 0, none⟩ = A.cell? ⟨B2, 0, none⟩) (n r : Int) (w : World) (hB1 : B1 < w.heap.size) (hB2 : B2 < w.heap.size) (h1 : w.cell? ⟨B1, 0, none⟩ = some (.int .i64 r)) (h2 : w.cell? ⟨B2, 0, none⟩ = some (.int .i64 n)) :
    SeqStopsK Fence.wide m Try.prog 13 #[.pointer (some ⟨B1, 0, none⟩), .pointer (some ⟨B2, 0, none⟩)] (fun x : Int × Int => #[.int .i64 x.1, .int .i64 x.2]) Kp
      (fun ys => ys = upto (turnAt n r) (turnsN n r)) (fun pre => ∃ k, k ≤ turnsN n r ∧ pre = upto (turnAt n r) k) (turnsN n r) w := by
  rcases leaderOf_cases n r with hl | ⟨hc, hr, hl⟩
  · rw [show turnsN n r = 0 by simp [turnsN, hl]]
    exact fun l J Jx W hW _ _ _ h0 => from1_none m l B1 B2 n r hm hl J Jx W ((hW.cell (p := ⟨B1, 0, none⟩) hB1).trans h1) ((hW.cell (p := ⟨B2, 0, none⟩) hB2).trans h2) h0
  · rw [show turnsN n r = (1099511627777 - r).toNat by simp [turnsN]; omega]
    exact from_stops m hm B1 B2 Kp hKc n r hc hr w hB1 hB2 h1 h2

theorem fr_from_in (F : Fence) (m : Nat) (n r : Int) (w : World) (h : F = Fence.wide) : CallsIn F m Try.prog 7 #[.int .i64 n, .int .i64 r] w fun e w' => e = .returned (.func (.func 13) #[] #[.pointer (some ⟨w.heap.size + 1, 0, none⟩), .pointer (some ⟨w.heap.size, 0, none⟩)]) ∧
      w' = (w.alloc (.cells #[.int .i64 n] 3)).alloc (.cells #[.int .i64 r] 3) := by
  subst h
  exact from_in m n r w

theorem alive_in (F : Fence) (m : Nat) (w : World) (h : F = Fence.wide) : CallsIn F m Try.prog 6 #[] w fun e w' => e = .returned (.bool true) ∧ w = w' := by
  subst h
  exact callsIn_wide.2 (turns_alive w)

theorem refLeader_in (l m : Nat) (w : World) (n r : Int) : CallsIn (Fence.wide.inRound l) m Try.prog 8 #[.int .i64 n, .int .i64 r] w fun e w' => e = .returned (.int .i64 (leaderOf n r)) ∧ w = w' :=
  CallsIn.inRound l (callsIn_wide.2 (refLeader_is w n r))
theorem refLeader_in0 (m : Nat) (w : World) (n r : Int) : CallsIn Fence.wide m Try.prog 8 #[.int .i64 n, .int .i64 r] w fun e w' => e = .returned (.int .i64 (leaderOf n r)) ∧ w = w' :=
  callsIn_wide.2 (refLeader_is w n r)

/-- What the body asks of the round that is told as number k. -/
def goodAt (n r : Int) (k : Nat) (x : Int × Int) : Prop := ¬ x.1 < r ∧ wrap64 (x.1 - r) = (k : Int) ∧ x.2 = leaderOf n x.1

set_option maxRecDepth 100000 in
set_option maxHeartbeats 4000000 in
theorem turnsFrom_any (w : World) (n r f : Int) : Calls Try.prog 3 #[.int .i64 n, .int .i64 r, .int .i64 f] w fun e w' => e = .returned (.bool true) ∧ Below w.heap.size w w' := by
  obtain ⟨m, hm, hmv⟩ := mod_val f 20 (by omega) (by omega)
  rw [show ((20 : Nat) : Int) = 20 from rfl] at hmv
  obtain ⟨M, hM⟩ : ∃ M : Int, M = (m : Int) := ⟨_, rfl⟩
  rw [← hM] at hmv
  have hM' := Lib.hid hM
  clear hM
  refine (callsIn_wide (n := 5)).1 ?_
  refine callsIn_of_wp_marks Try.func3 rfl trivial ?_ rfl
  simp only [Try.ntmps3, List.size_toArray, List.length_cons, List.length_nil, Nat.reduceAdd, Nat.reduceSub, Array.replicate_succ, Array.replicate_zero, List.push_toArray, List.append_toArray, List.nil_append, List.cons_append]
  gi_wp2
  refine ⟨trivial, ?_⟩
  refine (alive_in _ _ _ rfl).mono ?_
  rintro e w1 ⟨rfl, rfl⟩
  gi_wp2
  refine ⟨trivial, ?_⟩
  refine (fr_from_in _ _ _ _ _ rfl).mono ?_
  rintro e w1 ⟨rfl, rfl⟩
  gi_wp2
  have b0 := Boxed.new w 3 (.int .i64 n)
  have b1 := Boxed.new (w.alloc (.cells #[.int .i64 n] 3)) 3 (.int .i64 r)
  have b2 := Boxed.new ((w.alloc (.cells #[.int .i64 n] 3)).alloc (.cells #[.int .i64 r] 3)) 3 (.int .i64 M)
  have b3 := Boxed.new (((w.alloc (.cells #[.int .i64 n] 3)).alloc (.cells #[.int .i64 r] 3)).alloc (.cells #[.int .i64 M] 3)) 4 (.bool false)
  have b4 := Boxed.new ((((w.alloc (.cells #[.int .i64 n] 3)).alloc (.cells #[.int .i64 r] 3)).alloc (.cells #[.int .i64 M] 3)).alloc (.cells #[.bool false] 4)) 3 (.int .i64 0)
  have b5 := Boxed.new (((((w.alloc (.cells #[.int .i64 n] 3)).alloc (.cells #[.int .i64 r] 3)).alloc (.cells #[.int .i64 M] 3)).alloc (.cells #[.bool false] 4)).alloc (.cells #[.int .i64 0] 3)) 3 (.int .i64 n)
  have b6 := Boxed.new ((((((w.alloc (.cells #[.int .i64 n] 3)).alloc (.cells #[.int .i64 r] 3)).alloc (.cells #[.int .i64 M] 3)).alloc (.cells #[.bool false] 4)).alloc (.cells #[.int .i64 0] 3)).alloc (.cells #[.int .i64 n] 3)) 3 (.int .i64 r)
  simp only [World.size_alloc] at b1 b2 b3 b4 b5 b6
  have c0 := ((((((b0.alloc (.cells #[.int .i64 r] 3)).alloc (.cells #[.int .i64 M] 3)).alloc (.cells #[.bool false] 4)).alloc (.cells #[.int .i64 0] 3)).alloc (.cells #[.int .i64 n] 3)).alloc (.cells #[.int .i64 r] 3))
  have c1 := (((((b1.alloc (.cells #[.int .i64 M] 3)).alloc (.cells #[.bool false] 4)).alloc (.cells #[.int .i64 0] 3)).alloc (.cells #[.int .i64 n] 3)).alloc (.cells #[.int .i64 r] 3))
  have c2 := ((((b2.alloc (.cells #[.bool false] 4)).alloc (.cells #[.int .i64 0] 3)).alloc (.cells #[.int .i64 n] 3)).alloc (.cells #[.int .i64 r] 3))
  have c3 := (((b3.alloc (.cells #[.int .i64 0] 3)).alloc (.cells #[.int .i64 n] 3)).alloc (.cells #[.int .i64 r] 3))
  have c4 := ((b4.alloc (.cells #[.int .i64 n] 3)).alloc (.cells #[.int .i64 r] 3))
  have c5 := (b5.alloc (.cells #[.int .i64 r] 3))
  have c6 := b6
  have hBl : Below w.heap.size w (((((((w.alloc (.cells #[.int .i64 n] 3)).alloc (.cells #[.int .i64 r] 3)).alloc (.cells #[.int .i64 M] 3)).alloc (.cells #[.bool false] 4)).alloc (.cells #[.int .i64 0] 3)).alloc (.cells #[.int .i64 n] 3)).alloc (.cells #[.int .i64 r] 3)) := (((((((Below.refl w.heap.size w).alloc (Nat.le_refl _) _).alloc (by simp; try omega) _).alloc (by simp; try omega) _).alloc (by simp; try omega) _).alloc (by simp; try omega) _).alloc (by simp; try omega) _).alloc (by simp; try omega) _
  obtain ⟨W0, hW0⟩ : ∃ W0, (((((((w.alloc (.cells #[.int .i64 n] 3)).alloc (.cells #[.int .i64 r] 3)).alloc (.cells #[.int .i64 M] 3)).alloc (.cells #[.bool false] 4)).alloc (.cells #[.int .i64 0] 3)).alloc (.cells #[.int .i64 n] 3)).alloc (.cells #[.int .i64 r] 3)) = W0 := ⟨_, rfl⟩
  have hsz : W0.heap.size = w.heap.size + 7 := by rw [← hW0]; simp
  rw [hW0] at hBl c0 c1 c2 c3 c4 c5 c6 ⊢
  clear b0 b1 b2 b3 b4 b5 b6 hW0
  refine wpIn_rangeFunc_ownG rfl (by omega) (gf := 13) (lb := #[.pointer (some ⟨w.heap.size + 1 + 1 + 1 + 1 + 1 + 1, 0, none⟩), .pointer (some ⟨w.heap.size + 1 + 1 + 1 + 1 + 1, 0, none⟩)]) rfl trivial (enters_of Try.func13 (by kernel_rfl) rfl)
    (from_all 4 (by omega) (w.heap.size + 1 + 1 + 1 + 1 + 1 + 1) (w.heap.size + 1 + 1 + 1 + 1 + 1) (fun A B => B.cell? ⟨w.heap.size + 1 + 1 + 1 + 1 + 1, 0, none⟩ = A.cell? ⟨w.heap.size + 1 + 1 + 1 + 1 + 1, 0, none⟩) (fun _ _ h => h) n r W0 (by omega) (by omega) c6.cell c5.cell) (fun h1 h2 => h2.trans h1) (fun W l o o' hl ho hc hw => (belowK_b (w := W0) (Nat.le_refl _) W l o o' hl ho hc hw).cell (p := ⟨w.heap.size + 1 + 1 + 1 + 1 + 1, 0, none⟩) (by dsimp only; omega)) (Below.refl _ _) (fun _ => rfl)
    (fun pre W => (pre.length ≤ m ∧ (W.cell? ⟨w.heap.size, 0, none⟩ = some (.int .i64 n) ∧ W.cell? ⟨w.heap.size + 1, 0, none⟩ = some (.int .i64 r) ∧ W.cell? ⟨w.heap.size + 1 + 1, 0, none⟩ = some (.int .i64 M)) ∧ (W.cell? ⟨w.heap.size + 1 + 1 + 1, 0, none⟩ = some (.bool false) ∧ W.frozen? ⟨w.heap.size + 1 + 1 + 1, 0, none⟩ = false) ∧ (W.cell? ⟨w.heap.size + 1 + 1 + 1 + 1, 0, none⟩ = some (.int .i64 (pre.length : Int)) ∧ W.frozen? ⟨w.heap.size + 1 + 1 + 1 + 1, 0, none⟩ = false)) ∧ Below w.heap.size w W)
    (fun c pre W => (c = .ret ∧ (W.cell? ⟨w.heap.size + 1 + 1 + 1, 0, none⟩ = some (.bool true) ∨ ∃ ini last, pre = ini ++ [last] ∧ ¬ goodAt n r ini.length last)) ∧ Below w.heap.size w W)
    (OwnFrom.and (Own.from (fun s A B row hs hg hr => ⟨hs.1, ⟨cell_kept hs.2.1.1 hg hr, cell_kept hs.2.1.2.1 hg hr, cell_kept hs.2.1.2.2 hg hr⟩, ⟨cell_kept hs.2.2.1.1 hg hr, (frozen_kept hs.2.2.1.1 hg hr).trans hs.2.2.1.2⟩, ⟨cell_kept hs.2.2.2.1 hg hr, (frozen_kept hs.2.2.2.1 hg hr).trans hs.2.2.2.2⟩⟩) _) (ownFrom_below (Nat.le_refl _) (by omega)))
    (fun c => OwnFrom.and (Own.from (fun s A B row hs hg hr => by obtain ⟨hc, hx⟩ := hs; exact ⟨hc, hx.imp (fun h => cell_kept h hg hr) id⟩) _) (ownFrom_below (Nat.le_refl _) (by omega)))
    ⟨⟨by simp, ⟨c0.cell, c1.cell, c2.cell⟩, ⟨c3.cell, c3.frozen⟩, ⟨c4.cell, c4.frozen⟩⟩, hBl⟩
    (fun x => { tmps := #[.int .i64 n, .int .i64 r, .int .i64 f, .pointer (some ⟨w.heap.size, 0, none⟩), .pointer (some ⟨w.heap.size + 1, 0, none⟩), .pointer (some ⟨w.heap.size + 1 + 1, 0, none⟩), .pointer (some ⟨w.heap.size + 1 + 1 + 1, 0, none⟩), .pointer (some ⟨w.heap.size + 1 + 1 + 1 + 1, 0, none⟩), .int .i64 x.1, .int .i64 x.2, .bool true, .bool false, .int .i64 f, .int .u64 (IntKind.u64.wrap f), .int .u64 ((IntKind.u64.wrap f).tmod 20), .int .i64 M, .int .i64 n, .int .i64 r, .func (.func 13) #[] #[.pointer (some ⟨w.heap.size + 1 + 1 + 1 + 1 + 1 + 1, 0, none⟩), .pointer (some ⟨w.heap.size + 1 + 1 + 1 + 1 + 1, 0, none⟩)], .int .i64 x.1, .int .i64 x.2, undef, undef, undef, undef, undef, undef, undef, undef, undef, undef, undef, undef, undef, undef, undef, undef, undef, undef, undef, undef, undef, undef, undef, undef, undef, undef, undef, undef, undef, undef, undef, undef, undef, undef, undef, undef, undef], defers := [] }) ?assign ?body ?done ?stop
  case assign =>
    intro l x W K hK
    gi_wp2
    exact hK
  case body =>
    rintro l pre x W ⟨⟨hlen, ⟨h0c, h1c, h2c⟩, ⟨h3c, h3f⟩, ⟨h4c, h4f⟩⟩, hbl⟩ _
    obtain ⟨i, hi⟩ : ∃ i : Int, i = (pre.length : Int) := ⟨_, rfl⟩
    rw [← hi] at h4c
    have hi' := Lib.hid hi
    have HL := Lib.hid hlen
    clear hi hlen
    by_cases hx : i = M
    · have dx : (i == M) = true := by simpa using hx
      clear hx
      gi_wp2
      exact ⟨(KeepsOthers.setCell _ _ _).from _, ⟨rfl, .inl (World.cell?_setCell_same' _ _ _ (by rw [h3c]; rfl))⟩, hbl.setCell (p := ⟨w.heap.size + 1 + 1 + 1, 0, none⟩) (by dsimp only; omega) _⟩
    · have dx : (i == M) = false := by simpa using hx
      have hx' := Lib.hid hx
      clear hx
      by_cases g1 : x.1 < r
      · have e1 : decide (x.1 < r) = true := by simpa using g1
        have hg : ¬ goodAt n r pre.length x := fun h => h.1 g1
        have Hg := Lib.hid hg
        clear hg g1
        gi_wp2
        refine ⟨trivial, ?_⟩
        gi_wp2
        exact ⟨(KeepsOthers.setCell _ _ _).from _, ⟨rfl, .inr ⟨pre, x, rfl, Hg.out⟩⟩, hbl.setCell (p := ⟨w.heap.size + 1 + 1 + 1, 0, none⟩) (by dsimp only; omega) _⟩
      · have e1 : decide (x.1 < r) = false := by simpa using g1
        by_cases g2 : wrap64 (x.1 - r) = i
        · by_cases g3 : x.2 = leaderOf n x.1
          · have e3 : (x.2 != leaderOf n x.1) = false := by simpa using g3
            have e2 : (wrap64 (x.1 - r) != i) = false := by simpa using g2
            have s1 : wrap64 (i + 1) = i + 1 := w64 _ (by have h1 := HL.out; have h2 := hi'.out; omega)
            clear g1 g2 g3
            gi_wp2
            refine ⟨trivial, ?_⟩
            refine (refLeader_in _ _ _ _ _).mono ?_
            rintro e w1 ⟨rfl, rfl⟩
            gi_wp2
            refine ⟨(KeepsOthers.setCell _ _ _).from _, World.cell?_setCell_other _ _ _ _ (by simp), ⟨⟨?_, ?_, ?_, ?_⟩, hbl.setCell (p := ⟨w.heap.size + 1 + 1 + 1 + 1, 0, none⟩) (by dsimp only; omega) _⟩⟩
            · have h1 := HL.out
              have h2 := hi'.out
              have h3 := hx'.out
              have h4 := hM'.out
              simp
              omega
            · exact ⟨(World.cell?_setCell_other _ _ _ _ (by simp)).trans h0c, (World.cell?_setCell_other _ _ _ _ (by simp)).trans h1c, (World.cell?_setCell_other _ _ _ _ (by simp)).trans h2c⟩
            · exact ⟨(World.cell?_setCell_other _ _ _ _ (by simp)).trans h3c, by rw [World.frozen?_setCell]; exact h3f⟩
            · refine ⟨?_, by rw [World.frozen?_setCell]; exact h4f⟩
              rw [List.length_append, List.length_singleton, show ((pre.length + 1 : Nat) : Int) = i + 1 by have h2 := hi'.out; omega]
              exact World.cell?_setCell_same' _ _ _ (by rw [h4c]; rfl)
          · have e3 : (x.2 != leaderOf n x.1) = true := by simpa using g3
            have e2 : (wrap64 (x.1 - r) != i) = false := by simpa using g2
            have hg : ¬ goodAt n r pre.length x := fun h => g3 h.2.2
            have Hg := Lib.hid hg
            clear hg g1 g2 g3
            gi_wp2
            refine ⟨trivial, ?_⟩
            refine (refLeader_in _ _ _ _ _).mono ?_
            rintro e w1 ⟨rfl, rfl⟩
            gi_wp2
            exact ⟨(KeepsOthers.setCell _ _ _).from _, ⟨rfl, .inr ⟨pre, x, rfl, Hg.out⟩⟩, hbl.setCell (p := ⟨w.heap.size + 1 + 1 + 1, 0, none⟩) (by dsimp only; omega) _⟩
        · have e2 : (wrap64 (x.1 - r) != i) = true := by simpa using g2
          have hg : ¬ goodAt n r pre.length x := fun h => g2 (h.2.1.trans hi'.out.symm)
          have Hg := Lib.hid hg
          clear hg g1 g2
          gi_wp2
          refine ⟨trivial, ?_⟩
          gi_wp2
          exact ⟨(KeepsOthers.setCell _ _ _).from _, ⟨rfl, .inr ⟨pre, x, rfl, Hg.out⟩⟩, hbl.setCell (p := ⟨w.heap.size + 1 + 1 + 1, 0, none⟩) (by dsimp only; omega) _⟩
  case done =>
    rintro D ys W hD rfl ⟨⟨hlen, ⟨h0c, h1c, h2c⟩, ⟨h3c, h3f⟩, ⟨h4c, h4f⟩⟩, hbl⟩ hK
    rw [upto_length] at h4c hlen
    have HL := Lib.hid hlen
    clear hlen
    obtain ⟨i, hi⟩ : ∃ i : Int, i = (turnsN n r : Int) := ⟨_, rfl⟩
    rw [← hi] at h4c
    have hi' := Lib.hid hi
    clear hi
    rcases leaderOf_cases n r with hl | ⟨hc, hr, hl⟩
    · have d1 : decide (leaderOf n r < 0) = true := by rw [hl]; rfl
      have i0 : i = 0 := by rw [hi'.out, turnsN, if_pos hl]; rfl
      subst i0
      clear hl
      gi_wp2
      refine ⟨trivial, ?_⟩
      refine (refLeader_in0 _ _ _ _).mono ?_
      rintro e w1 ⟨rfl, rfl⟩
      gi_wp2
      have hK' := (KeepsOthers.setCell W ⟨w.heap.size + 1 + 1 + 1, 0, none⟩ (.bool true)).same D _ hK rfl
      refine ⟨by simp, .inl ⟨_, _, rfl, run_takeDeferred hK', ?_⟩⟩
      have h1' := cell_kept (World.cell?_setCell_same' W ⟨w.heap.size + 1 + 1 + 1, 0, none⟩ (.bool true) (by rw [h3c]; rfl)) (grownBy_putObj' _ D (.deferred none)) (fun r e => by cases e; exact ⟨_, hK', rfl⟩)
      refine ⟨.bool true, ?_, rfl, (hbl.setCell (p := ⟨w.heap.size + 1 + 1 + 1, 0, none⟩) (by dsimp only; omega) _).trans (belowK_b (w := w) (Nat.le_refl _) _ D _ _ (by omega) hK' rfl rfl)⟩
      simp [results, Try.f3, go_sem, h1']
    · have d1 : decide (leaderOf n r < 0) = false := by simp; omega
      have hN' : turnsN n r = (1099511627777 - r).toNat := by simp [turnsN]; omega
      rw [hN'] at hi'
      by_cases hr2 : 1099511627776 < r
      · have d2 : decide (1099511627776 < r) = true := by simpa using hr2
        have i0 : i = 0 := by have h2 := hi'.out; omega
        subst i0
        clear hl hr hr2 hN'
        gi_wp2
        refine ⟨trivial, ?_⟩
        refine (refLeader_in0 _ _ _ _).mono ?_
        rintro e w1 ⟨rfl, rfl⟩
        gi_wp2
        have hK' := (KeepsOthers.setCell W ⟨w.heap.size + 1 + 1 + 1, 0, none⟩ (.bool true)).same D _ hK rfl
        refine ⟨by simp, .inl ⟨_, _, rfl, run_takeDeferred hK', ?_⟩⟩
        have h1' := cell_kept (World.cell?_setCell_same' W ⟨w.heap.size + 1 + 1 + 1, 0, none⟩ (.bool true) (by rw [h3c]; rfl)) (grownBy_putObj' _ D (.deferred none)) (fun r e => by cases e; exact ⟨_, hK', rfl⟩)
        refine ⟨.bool true, ?_, rfl, (hbl.setCell (p := ⟨w.heap.size + 1 + 1 + 1, 0, none⟩) (by dsimp only; omega) _).trans (belowK_b (w := w) (Nat.le_refl _) _ D _ _ (by omega) hK' rfl rfl)⟩
        simp [results, Try.f3, go_sem, h1']
      · have d2 : decide (1099511627776 < r) = false := by simpa using hr2
        have s1 : wrap64 (1099511627776 - r) = 1099511627776 - r := w64 _ ⟨by omega, by omega⟩
        have s2 : wrap64 (i - 1) = 1099511627776 - r := by
          have h2 := hi'.out
          rw [w64 _ ⟨by omega, by omega⟩]; omega
        clear hl hr hr2 hN'
        gi_wp2
        refine ⟨trivial, ?_⟩
        refine (refLeader_in0 _ _ _ _).mono ?_
        rintro e w1 ⟨rfl, rfl⟩
        gi_wp2
        have hK' := (KeepsOthers.setCell W ⟨w.heap.size + 1 + 1 + 1, 0, none⟩ (.bool true)).same D _ hK rfl
        refine ⟨by simp, .inl ⟨_, _, rfl, run_takeDeferred hK', ?_⟩⟩
        have h1' := cell_kept (World.cell?_setCell_same' W ⟨w.heap.size + 1 + 1 + 1, 0, none⟩ (.bool true) (by rw [h3c]; rfl)) (grownBy_putObj' _ D (.deferred none)) (fun r e => by cases e; exact ⟨_, hK', rfl⟩)
        refine ⟨.bool true, ?_, rfl, (hbl.setCell (p := ⟨w.heap.size + 1 + 1 + 1, 0, none⟩) (by dsimp only; omega) _).trans (belowK_b (w := w) (Nat.le_refl _) _ D _ _ (by omega) hK' rfl rfl)⟩
        simp [results, Try.f3, go_sem, h1']
  case stop =>
    rintro D c pre W hD ⟨k, hk, rfl⟩ ⟨⟨rfl, hx⟩, hbl⟩ hK
    gi_wp2
    refine ⟨by simp, .inl ⟨_, _, rfl, run_takeDeferred hK, ?_⟩⟩
    rcases hx with h3c | ⟨ini, last, e1, e2⟩
    · have h1' := cell_kept h3c (grownBy_putObj' _ D (.deferred none)) (fun r e => by cases e; exact ⟨_, hK, rfl⟩)
      refine ⟨.bool true, ?_, rfl, hbl.trans (belowK_b (w := w) (Nat.le_refl _) W D _ _ (by omega) hK rfl rfl)⟩
      simp [results, Try.f3, go_sem, h1']
    · exfalso
      obtain ⟨k', rfl⟩ : ∃ k', k = k' + 1 := by
        cases k with
        | zero => simp [upto] at e1
        | succ k' => exact ⟨k', rfl⟩
      rw [upto_succ] at e1
      obtain ⟨rfl, e5⟩ := List.append_inj' e1 rfl
      obtain rfl : turnAt n r k' = last := by simpa using e5
      rw [upto_length] at e2
      have hN : 0 < turnsN n r := by omega
      rcases leaderOf_cases n r with hl | ⟨hc, hr, hl⟩
      · simp [turnsN, hl] at hN
      · have hN' : turnsN n r = (1099511627777 - r).toNat := by simp [turnsN]; omega
        refine e2 ⟨?_, ?_, rfl⟩
        · simp only [turnAt]; omega
        · simp only [turnAt]; rw [show r + (k' : Int) - r = k' by omega]; exact w64 _ ⟨by omega, by omega⟩
end Go.Proofs.Yticpjbpfkkaobaa
