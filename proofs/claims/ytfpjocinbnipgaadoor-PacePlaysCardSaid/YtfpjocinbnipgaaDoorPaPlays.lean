/-
  PacePlays: a script of ops as an argument; the walk.
-/
import Derived.Test.YtfpjocinbnipgaaDoorPaRef
import Derived.Test.YtfpjocinbnipgaaDoorGrow
import Derived.Test.YtfpjocinbnipgaaDoorArg0
namespace Go.Proofs.YtfpjocinbnipgaaDoor
open Go.ChangeShapes Go.WideShapes Go.ChangeAt Go.RowKit

structure PaOp where (k r : Int)
def PaOpAt (w : World) (b off : Nat) (x : PaOp) : Prop := w.cell? ⟨b, off, none⟩ = some (.int .i64 x.k) ∧ w.cell? ⟨b, off + 1, none⟩ = some (.int .i64 x.r)
def PaOpsAt (w : World) (A : Option Addr) (xs : List PaOp) : Prop := xs ≠ [] → ∃ b off, A = some ⟨b, off, none⟩ ∧ ∀ k (h : k < xs.length), PaOpAt w b (off + k * 2) xs[k]
theorem PaOpsAt.kept {w w' : World} {A : Option Addr} {xs : List PaOp} (h : PaOpsAt w A xs) (hk : Kept (fun _ => False) w w') : PaOpsAt w' A xs := fun hne => by
  obtain ⟨b, off, rfl, hc⟩ := h hne
  exact ⟨b, off, rfl, fun k h => ⟨hk.cell (hc k h).1 (fun h => h), hk.cell (hc k h).2 (fun h => h)⟩⟩

section
variable {H : Type} {enc : TypeId × Value → H} {w : World} {base : Nat} {spare : Nat → Bool} {held : Bool} {fuel : Nat} {cs : List Value} {x : DataW H × List MemPlace}
theorem cellsInt : Tryd.prog.cellsOf 3 = 1 := by kernel_rfl
theorem cellsPaOp : Tryd.prog.cellsOf 34 = 2 := by kernel_rfl
set_option maxRecDepth 100000 in
theorem open_paop {cs : List Value} (h : DataW.trod enc Tryd.prog w base spare held fuel 34 cs = some x) : ∃ z0 z1 : Int, cs = [.int .i64 z0, .int .i64 z1] := by
  obtain ⟨xs, n, _, hx, hlen, hxl, hf⟩ := DataW.trod_struct Tryd.underlying34 h
  rw [cellsPaOp] at hlen
  match cs, hlen with
  | [v0, v1], _ =>
    match xs, hxl with
    | [y0, y1], _ =>
      have f0 : DataW.trod enc Tryd.prog w base spare held n 3 ((([v0, v1] : List Value).drop 0).take (Tryd.prog.cellsOf 3)) = some y0 := hf 0 _ rfl
      rw [cellsInt] at f0
      obtain ⟨z0, e0, _, _⟩ := DataW.trod_int Tryd.underlying3 (show DataW.trod enc Tryd.prog w base spare held n 3 [v0] = some y0 from f0)
      injection e0 with e0 _
      have f1 : DataW.trod enc Tryd.prog w base spare held n 3 ((([v0, v1] : List Value).drop 1).take (Tryd.prog.cellsOf 3)) = some y1 := hf 1 _ rfl
      rw [cellsInt] at f1
      obtain ⟨z1, e1, _, _⟩ := DataW.trod_int Tryd.underlying3 (show DataW.trod enc Tryd.prog w base spare held n 3 [v1] = some y1 from f1)
      injection e1 with e1 _
      exact ⟨z0, z1, by rw [e0, e1]⟩
theorem open_paops (h : DataW.trod enc Tryd.prog w base spare held fuel 22 cs = some x) :
    ∃ A n c, ∃ xs : List PaOp, cs = [.slice A n c] ∧ xs.length = n ∧ n ≤ c ∧ PaOpsAt w A xs := by
  rcases DataW.trod_slice Tryd.underlying22 h with ⟨hcs, _⟩ | ⟨a, len, cap, elems, rest, n, _, hcs, _, _, hl, _, hlen, hel, _⟩
  · exact ⟨none, 0, 0, [], hcs, rfl, Nat.le_refl _, fun h => absurd rfl h⟩
  · rw [cellsPaOp] at hel
    have each : ∀ i, i < len → ∃ o : PaOp, ∀ j, j < 2 → w.cell? (a.add (i * 2 + j)) = [Value.int .i64 o.k, .int .i64 o.r][j]? := by
      intro i hi
      have hE := hel i hi
      have hi' : i < elems.length := by omega
      rw [List.getElem?_eq_getElem hi'] at hE
      simp only [Option.bind_eq_some_iff] at hE
      obtain ⟨cs', hc', ht⟩ := hE
      obtain ⟨z0, z1, rfl⟩ := open_paop ht
      obtain ⟨_, _, hat⟩ := World.cells?_some hc'
      refine ⟨⟨z0, z1⟩, fun j hj => ?_⟩
      rw [← Go.Deep.add_add]
      exact hat j hj
    let ops : List PaOp := (List.range len).map fun i => if h : i < len then (each i h).choose else ⟨0, 0⟩
    have hops : ops.length = len := by simp [ops]
    refine ⟨some a, len, cap, ops, hcs, hops, hl, fun hne => ?_⟩
    have h0 : 0 < len := by rw [← hops]; exact List.length_pos_iff.2 hne
    have hspot : ∃ b off, a = ⟨b, off, none⟩ := by
      obtain ⟨o, hc⟩ := each 0 h0
      have := hc 0 (by omega)
      simp only [Nat.zero_mul, Nat.zero_add, List.getElem?_cons_zero] at this
      exact addr_form this rfl
    obtain ⟨b, off, rfl⟩ := hspot
    refine ⟨b, off, rfl, fun k hk => ?_⟩
    have hk' : k < len := by omega
    have e : ops[k] = (each k hk').choose := by simp [ops, hk']
    rw [e]
    have hc := (each k hk').choose_spec
    have hcell : ∀ j, j < 2 → w.cell? ⟨b, off + k * 2 + j, none⟩ = [Value.int .i64 (each k hk').choose.k, .int .i64 (each k hk').choose.r][j]? := fun j hj => by
      have := hc j hj
      rw [Go.WideShapes.add_plain, ← Nat.add_assoc] at this
      exact this
    exact ⟨hcell 0 (by omega), hcell 1 (by omega)⟩
set_option maxRecDepth 100000 in
theorem arg_paops {v : Value} {d : DataW H} {p : List MemPlace} {b0 : Nat} (hv : Value.okWide Tryd.prog w .any b0 22 v) (h : DataW.Trod enc Tryd.prog w base spare held 22 v d p) :
    ∃ A n c, ∃ xs : List PaOp, v = .slice A n c ∧ xs.length = n ∧ n ≤ c ∧ PaOpsAt w A xs := by
  obtain ⟨a0, len, cap, rfl⟩ := okWide_slice Tryd.underlying22 hv
  obtain ⟨fuel, hf⟩ := h
  obtain ⟨A, n, c, xs, hcs, hn, hc, hb⟩ := open_paops hf
  have e : Value.slice a0 len cap = .slice A n c := (List.cons.inj (show [Value.slice a0 len cap] = [Value.slice A n c] from hcs)).1
  exact ⟨A, n, c, xs, e, hn, hc, hb⟩
end

theorem num_is (w : World) (B : Nat) (E : Nat → Addr) (he : ErrEnv w B E) (k : Nat) (hk : k ≤ 18) : Calls Tryd.prog 9 #[evOf E k] w fun en w' => en = .returned (.int .i64 (k : Int)) ∧ w.grownBy w' none := by
  rcases k with _ | k
  · exact (num_nil w).mono fun en w' ⟨h1, h2⟩ => ⟨by rw [h1]; rfl, h2 ▸ World.grownBy.refl _ _⟩
  · exact (num_err w B E k (by omega) he).mono fun en w' ⟨h1, h2⟩ => ⟨by rw [h1]; rfl, h2⟩
theorem num_eV (w : World) (B : Nat) (E : Nat → Addr) (he : ErrEnv w B E) (x : Int) : Calls Tryd.prog 9 #[eV (E 0) (E 13) x] w fun en w' => en = .returned (.int .i64 (eN x : Int)) ∧ w.grownBy w' none := by
  rw [eV_eN]
  exact num_is w B E he _ (eN_le x)
theorem round_g (w : World) (g : Nat) (r f t : Int) (h : Pc w g r f t) : Calls Tryd.prog 16 #[.pointer (some ⟨g, 0, none⟩)] w fun e w' => e = .returned (.int .i64 r) ∧ w.grownBy w' none :=
  (round_is w g r f t h).mono fun _ _ ⟨h1, h2⟩ => ⟨h1, h2 ▸ World.grownBy.refl _ _⟩
theorem fails_g (w : World) (g : Nat) (r f t : Int) (h : Pc w g r f t) : Calls Tryd.prog 17 #[.pointer (some ⟨g, 0, none⟩)] w fun e w' => e = .returned (.int .i64 f) ∧ w.grownBy w' none :=
  (fails_is w g r f t h).mono fun _ _ ⟨h1, h2⟩ => ⟨h1, h2 ▸ World.grownBy.refl _ _⟩
theorem refWait_g (w : World) (f : Int) : Calls Tryd.prog 19 #[.int .i64 f] w fun e w' => e = .returned (.int .i64 (waitOf f)) ∧ w.grownBy w' none :=
  (refWait_is w f).mono fun _ _ ⟨h1, h2⟩ => ⟨h1, h2 ▸ World.grownBy.refl _ _⟩
theorem endT_in (r x t F : Int) (f : Int) (h0 : 0 ≤ t) (h1 : t < waitOf f) (hF : yesB r x = false → F = f) : 0 ≤ endT r x t ∧ endT r x t < waitOf F := by
  have h2 := waitOf_in F
  cases hy : yesB r x
  · simp only [endT, hy]
    rw [hF hy]
    exact ⟨h0, h1⟩
  · simp only [endT, hy]
    simp
    omega
theorem endF_in (r x f F : Int) (k : Nat) (h0 : 0 ≤ f) (h1 : f ≤ (k : Int)) (h2 : 0 ≤ F) (h3 : F ≤ (k : Int) + 1) : 0 ≤ endF r x f F ∧ endF r x f F ≤ ((k + 1 : Nat) : Int) := by
  unfold endF
  split <;> omega

theorem i64_wrap (x : Int) : IntKind.i64.wrap x = wrap64 x := by rw [IntKind.wrap_i64]; unfold wrap64; omega

set_option maxRecDepth 100000 in
set_option maxHeartbeats 16000000 in
theorem plays_any (w : World) (B : Nat) (E : Nat → Addr) (he : ErrEnv w B E) (round : Int) (A : Option Addr) (n c : Nat) (xs : List PaOp) (hn : xs.length = n) (hx : PaOpsAt w A xs) :
    Calls Tryd.prog 3 #[.int .i64 round, .slice A n c] w fun en w' => en = .returned (.bool true) ∧ w.grownBy w' none := by
  by_cases hbig : 100 < n
  · have d1 : decide ((100 : Int) < (n : Int)) = true := by simp; omega
    clear hn hbig
    go_enter Tryd.func3, Tryd.ntmps3
    go_wp2_with fail
    refine (pace_alive _ B (E 0) (E 13) (he.var 0 (by omega)) (he.var 13 (by omega))).mono ?_
    rintro en w1 ⟨rfl, k1⟩
    have he1 := he.grown k1 (by simp)
    go_wp2_with fail
    go_ret
    exact ⟨rfl, k1⟩
  · have d1 : decide ((100 : Int) < (n : Int)) = false := by simp; omega
    have hn100 : n ≤ 100 := by omega
    have Hn := Lib.hid hn
    clear hn hbig
    by_cases hr : 1 ≤ round ∧ round ≤ 1099511627776
    · have d2 : decide (round < (1 : Int)) = false := by simp; omega
      have d3 : decide ((1099511627776 : Int) < round) = false := by simp; omega
      go_enter Tryd.func3, Tryd.ntmps3
      go_wp2_with fail
      refine (pace_alive _ B (E 0) (E 13) (he.var 0 (by omega)) (he.var 13 (by omega))).mono ?_
      rintro en w1 ⟨rfl, k1⟩
      have he1 := he.grown k1 (by simp)
      go_wp2_with fail
      refine (new_ok _ _ hr.1 hr.2).mono ?_
      rintro en w2 ⟨rfl, rfl⟩
      have hP : Pc ((w1.alloc (.cells #[.int .i64 round, .int .i64 0, .int .i64 0] 48)).alloc (.cells #[.int .i64 round, .int .i64 0, .int .i64 0] 32)) w1.heap.size round 0 0 := (Blk.new w1 _ _).alloc _
      have hM : Pm ((w1.alloc (.cells #[.int .i64 round, .int .i64 0, .int .i64 0] 48)).alloc (.cells #[.int .i64 round, .int .i64 0, .int .i64 0] 32)) (w1.heap.size + 1) round 0 0 := by have := Blk.new (w1.alloc (.cells #[.int .i64 round, .int .i64 0, .int .i64 0] 48)) 32 #[.int .i64 round, .int .i64 0, .int .i64 0]; rwa [World.size_alloc] at this
      have k2 := grown_trans (grown_trans k1 (World.grownBy_alloc w1 (.cells #[.int .i64 round, .int .i64 0, .int .i64 0] 48) none)) (World.grownBy_alloc _ (.cells #[.int .i64 round, .int .i64 0, .int .i64 0] 32) none)
      have hgg : w.heap.size ≤ w1.heap.size := k1.size
      clear he1 hr
      go_wp2_with fail
      generalize (w1.alloc (.cells #[.int .i64 round, .int .i64 0, .int .i64 0] 48)).alloc (.cells #[.int .i64 round, .int .i64 0, .int .i64 0] 32) = w2 at *
      generalize w1.heap.size = g at *
      clear k1
      go_loopw [53] (fun i wr => ∃ (k : Nat) (r f t : Int), k ≤ n ∧ i = .int .i64 (k : Int) ∧ 0 ≤ f ∧ f ≤ (k : Int) ∧ 0 ≤ t ∧ t < waitOf f ∧ Pc wr g r f t ∧ Pm wr (g + 1) r f t ∧ w.grownBy wr none) (fun i _ => n - (intOf i).toNat)
      case atStart => exact ⟨0, round, 0, 0, Nat.zero_le _, rfl, by omega, by omega, by omega, by decide, hP, hM, k2⟩
      case round =>
        obtain ⟨k, r, f, t, hk, rfl, hf0, hf1, ht0, ht1, hp, hm, K⟩ := hrel
        by_cases hlt : k < n
        · have hlt' : decide ((k : Int) < (n : Int)) = true := by simp; omega
          have hkz : k < xs.length := by have := Hn.out; omega
          obtain ⟨zb, zo, rfl, hc⟩ := (hx.kept (Kept.of_grown (F := fun _ => False) K (fun _ e => by cases e))) (by intro e; rw [e] at hkz; simp at hkz)
          obtain ⟨x0, x1⟩ := hc k hkz
          clear hc
          generalize xs[k] = x at x0 x1
          have np := hp.lt
          have nm := hm.lt
          have hX := Blk.new wr 34 #[.int .i64 x.k, .int .i64 x.r]
          have hp := Blk.alloc hp (.cells #[.int .i64 x.k, .int .i64 x.r] 34)
          have hm := Blk.alloc hm (.cells #[.int .i64 x.k, .int .i64 x.r] 34)
          have K := grown_trans K (World.grownBy_alloc wr (.cells #[.int .i64 x.k, .int .i64 x.r] 34) none)
          have gX : ¬ wr.heap.size = g ∧ ¬ wr.heap.size = g + 1 := by omega
          have hw : (x.k == 1) = true ∨ ((x.k == 1) = false ∧ (x.k == 2) = true) ∨ ((x.k == 1) = false ∧ (x.k == 2) = false ∧ (x.k == 3) = true) ∨ ((x.k == 1) = false ∧ (x.k == 2) = false ∧ (x.k == 3) = false) := by
            simp only [beq_iff_eq, beq_eq_false_iff_ne, ne_eq]; omega
          rcases hw with q1 | ⟨q1, q2⟩ | ⟨q1, q2, q3⟩ | ⟨q1, q2, q3⟩
          · have x0 := Blk.cell hX 0
            have x1 := Blk.cell hX 1
            simp at x0 x1
            have heK := he.grown K (by simp)
            have hTi := endT_in r x.r t (endF r x.r f 0) f ht0 ht1 (fun h => by simp [endF, h])
            have hFi := endF_in r x.r f 0 k hf0 hf1 (by omega) (by omega)
            go_wp2_with fail
            refine (qc_is _ B g r f t x.r (E 0) (E 13) hp (heK.var 0 (by omega)) (heK.var 13 (by omega))).mono ?_
            rintro en w4 ⟨rfl, hp4, k4⟩
            have hm4 : Pm w4 (g + 1) r f t := Blk.grown hm k4 (by simp)
            have hX4 := Blk.grown hX k4 (by simp; omega)
            have K4 := (Kept.of_grown (F := fun _ => False) K (fun _ h => by cases h)).trans (Kept.of_grown (F := upTo (fun _ => False) w.heap.size _) (k4) (fun g' e => by cases e; exact .inr ⟨by omega, hp.lt⟩)) |>.grownNone (fun _ _ h => h)
            clear hp hm hX K k4 x0 x1
            have x0 := Blk.cell hX4 0
            have x1 := Blk.cell hX4 1
            simp at x0 x1
            go_wp2_with fail
            refine (mqc_is _ (g + 1) r f t x.r hm4).mono ?_
            rintro en w5 ⟨rfl, hm5, k5⟩
            have hp5 : Pc w5 g (endR r x.r) (endF r x.r f 0) (endT r x.r t) := Blk.grown hp4 k5 (by simp)
            have K5 := (Kept.of_grown (F := fun _ => False) K4 (fun _ h => by cases h)).trans (Kept.of_grown (F := upTo (fun _ => False) w.heap.size _) (k5) (fun g' e => by cases e; exact .inr ⟨by omega, hm4.lt⟩)) |>.grownNone (fun _ _ h => h)
            clear hp4 hm4 hX4 K4 k5 x0 x1 heK
            have heK := he.grown K5 (by simp)
            generalize endR r x.r = r' at *
            generalize endF r x.r f 0 = f' at *
            generalize endT r x.r t = t' at *
            go_wp2_with fail
            refine (num_eV _ B E heK x.r).mono ?_
            rintro en w6 ⟨rfl, k6⟩
            have hp6 : Pc w6 g r' f' t' := Blk.grown hp5 k6 (by simp)
            have hm6 : Pm w6 (g + 1) r' f' t' := Blk.grown hm5 k6 (by simp)
            have K6 := grown_trans K5 k6
            clear hp5 hm5 K5 k6 heK
            go_wp2_with fail
            have gP : ∀ z : Gr _, Pc z.1 g r' f' t' := fun z => Blk.grown hp6 z.2 (by simp)
            have m0 := Blk.cell hm6 0
            have m1 := Blk.cell hm6 1
            have m2 := Blk.cell hm6 2
            simp at m0 m1 m2
            have y0 := Gr.cell m0
            have y1 := Gr.cell m1
            have y2 := Gr.cell m2
            have hws : wrap64 (waitOf (f') - (t')) = waitOf (f') - (t') := w64 _ (by have := waitOf_in (f'); omega)
            have hne : (waitOf (f') - (t') != wrap64 (waitOf (f') - (t'))) = false := by rw [hws]; simp
            have hne2 : (waitOf (f') - (t') != IntKind.i64.wrap (waitOf (f') - (t'))) = false := by rw [i64_wrap, hws]; simp
            have hi2 : IntKind.i64.wrap (waitOf (f') - (t')) = waitOf (f') - (t') := by rw [i64_wrap, hws]
            have GP := Lib.hid gP
            clear gP
            refine wp_region_grown (by kernel_rfl) (by kernel_rfl) ?_
            repeat (go_big_quiet_step (first | (go_at_call 16; with_reducible exact Calls.grown _ (round_g _ g _ _ _ (GP.out _))) | (go_at_call 17; with_reducible exact Calls.grown _ (fails_g _ g _ _ _ (GP.out _))) | (go_at_call 18; with_reducible exact Calls.grown _ (left_is _ g _ (f') (t') (GP.out _) (by omega) (by have := waitOf_in (f'); omega))) | (go_at_call 19; with_reducible exact Calls.grown _ (refWait_g _ (f')))))
            refine wpQuiet_nil ?_
            rintro _ ⟨⟨w9, k9⟩, rfl⟩
            go_wp2
            go_roundw
            case rel => exact ⟨k + 1, r', f', t', by omega, by go_num, by omega, by omega, by omega, by omega, Blk.grown hp6 k9 (by simp), Blk.grown hm6 k9 (by simp), grown_trans K6 k9⟩
            case measure => simp [intOf]; omega
          · have x0 := Blk.cell hX 0
            have x1 := Blk.cell hX 1
            simp at x0 x1
            have heK := he.grown K (by simp)
            have hTi := endT_in r x.r t (endF r x.r f (f + 1)) f ht0 ht1 (fun h => by simp [endF, h])
            have hFi := endF_in r x.r f (f + 1) k hf0 hf1 (by omega) (by omega)
            go_wp2_with fail
            refine (tc_is _ B g r f t x.r (E 0) (E 13) hp (by omega) (by omega) (heK.var 0 (by omega)) (heK.var 13 (by omega))).mono ?_
            rintro en w4 ⟨rfl, hp4, k4⟩
            have hm4 : Pm w4 (g + 1) r f t := Blk.grown hm k4 (by simp)
            have hX4 := Blk.grown hX k4 (by simp; omega)
            have K4 := (Kept.of_grown (F := fun _ => False) K (fun _ h => by cases h)).trans (Kept.of_grown (F := upTo (fun _ => False) w.heap.size _) (k4) (fun g' e => by cases e; exact .inr ⟨by omega, hp.lt⟩)) |>.grownNone (fun _ _ h => h)
            clear hp hm hX K k4 x0 x1
            have x0 := Blk.cell hX4 0
            have x1 := Blk.cell hX4 1
            simp at x0 x1
            go_wp2_with fail
            refine (mtc_is _ (g + 1) r f t x.r hm4 (by omega) (by omega)).mono ?_
            rintro en w5 ⟨rfl, hm5, k5⟩
            have hp5 : Pc w5 g (endR r x.r) (endF r x.r f (f + 1)) (endT r x.r t) := Blk.grown hp4 k5 (by simp)
            have K5 := (Kept.of_grown (F := fun _ => False) K4 (fun _ h => by cases h)).trans (Kept.of_grown (F := upTo (fun _ => False) w.heap.size _) (k5) (fun g' e => by cases e; exact .inr ⟨by omega, hm4.lt⟩)) |>.grownNone (fun _ _ h => h)
            clear hp4 hm4 hX4 K4 k5 x0 x1 heK
            have heK := he.grown K5 (by simp)
            generalize endR r x.r = r' at *
            generalize endF r x.r f (f + 1) = f' at *
            generalize endT r x.r t = t' at *
            go_wp2_with fail
            refine (num_eV _ B E heK x.r).mono ?_
            rintro en w6 ⟨rfl, k6⟩
            have hp6 : Pc w6 g r' f' t' := Blk.grown hp5 k6 (by simp)
            have hm6 : Pm w6 (g + 1) r' f' t' := Blk.grown hm5 k6 (by simp)
            have K6 := grown_trans K5 k6
            clear hp5 hm5 K5 k6 heK
            go_wp2_with fail
            have gP : ∀ z : Gr _, Pc z.1 g r' f' t' := fun z => Blk.grown hp6 z.2 (by simp)
            have m0 := Blk.cell hm6 0
            have m1 := Blk.cell hm6 1
            have m2 := Blk.cell hm6 2
            simp at m0 m1 m2
            have y0 := Gr.cell m0
            have y1 := Gr.cell m1
            have y2 := Gr.cell m2
            have hws : wrap64 (waitOf (f') - (t')) = waitOf (f') - (t') := w64 _ (by have := waitOf_in (f'); omega)
            have hne : (waitOf (f') - (t') != wrap64 (waitOf (f') - (t'))) = false := by rw [hws]; simp
            have hne2 : (waitOf (f') - (t') != IntKind.i64.wrap (waitOf (f') - (t'))) = false := by rw [i64_wrap, hws]; simp
            have hi2 : IntKind.i64.wrap (waitOf (f') - (t')) = waitOf (f') - (t') := by rw [i64_wrap, hws]
            have GP := Lib.hid gP
            clear gP
            refine wp_region_grown (by kernel_rfl) (by kernel_rfl) ?_
            repeat (go_big_quiet_step (first | (go_at_call 16; with_reducible exact Calls.grown _ (round_g _ g _ _ _ (GP.out _))) | (go_at_call 17; with_reducible exact Calls.grown _ (fails_g _ g _ _ _ (GP.out _))) | (go_at_call 18; with_reducible exact Calls.grown _ (left_is _ g _ (f') (t') (GP.out _) (by omega) (by have := waitOf_in (f'); omega))) | (go_at_call 19; with_reducible exact Calls.grown _ (refWait_g _ (f')))))
            refine wpQuiet_nil ?_
            rintro _ ⟨⟨w9, k9⟩, rfl⟩
            go_wp2
            go_roundw
            case rel => exact ⟨k + 1, r', f', t', by omega, by go_num, by omega, by omega, by omega, by omega, Blk.grown hp6 k9 (by simp), Blk.grown hm6 k9 (by simp), grown_trans K6 k9⟩
            case measure => simp [intOf]; omega
          · have x0 := Blk.cell hX 0
            have x1 := Blk.cell hX 1
            simp at x0 x1
            obtain ⟨M, hM, hM1⟩ := mod_val x.r 40 (by omega) (by omega)
            rw [show ((40 : Nat) : Int) = 40 from rfl] at hM1
            obtain ⟨wo, rfl⟩ : ∃ wo : World, wo = wr := ⟨_, rfl⟩
            go_wp2_with fail
            try rw [hM1]
            clear hM1
            generalize wo.alloc (.cells #[.int .i64 x.k, .int .i64 x.r] 34) = wq at *
            go_loopw [10, 116, 117, 118, 119, 120, 121, 122, 123, 124, 125, 126] (fun ok i _ _ _ _ _ _ _ _ _ _ wr => ∃ (j : Nat) (t : Int), j ≤ M ∧ i = .int .i64 (j : Int) ∧ ok = .bool true ∧ 0 ≤ t ∧ t < waitOf f ∧ Pc wr g r f t ∧ Pm wr (g + 1) r f t ∧ w.grownBy wr none) (fun _ i _ _ _ _ _ _ _ _ _ _ _ => M - (intOf i).toNat)
            case atStart => exact ⟨0, t, Nat.zero_le _, rfl, rfl, ht0, ht1, hp, hm, K⟩
            case round =>
              obtain ⟨j, s, hj, rfl, rfl, hs0, hs1, hp2, hm2, K2⟩ := hrel
              clear x0 x1 hX hp hm K ht0 ht1
              by_cases hjl : j < M
              · have hj' : decide ((j : Int) < (M : Int)) = true := by simp; omega
                have hTi := tickT_in f s hs0 hs1
                go_wp2_with fail
                refine (tick_is _ g r f s hp2 hs0 hs1).mono ?_
                rintro en w5 ⟨rfl, hp5, k5⟩
                have hm5 : Pm w5 (g + 1) r f s := Blk.grown hm2 k5 (by simp)
                have K5 := (Kept.of_grown (F := fun _ => False) K2 (fun _ h => by cases h)).trans (Kept.of_grown (F := upTo (fun _ => False) w.heap.size _) (k5) (fun g' e => by cases e; exact .inr ⟨by omega, hp2.lt⟩)) |>.grownNone (fun _ _ h => h)
                clear hp2 hm2 K2 k5
                go_wp2_with fail
                refine (mtick_is _ (g + 1) r f s hm5 hs0 hs1).mono ?_
                rintro en w6 ⟨rfl, hm6, k6⟩
                have hp6 : Pc w6 g r f (tickT f s) := Blk.grown hp5 k6 (by simp)
                have K6 := (Kept.of_grown (F := fun _ => False) K5 (fun _ h => by cases h)).trans (Kept.of_grown (F := upTo (fun _ => False) w.heap.size _) (k6) (fun g' e => by cases e; exact .inr ⟨by omega, hm5.lt⟩)) |>.grownNone (fun _ _ h => h)
                clear hp5 hm5 K5 k6
                generalize tickT f s = s' at *
                go_wp2_with fail
                go_roundw
                case rel => exact ⟨j + 1, s', by omega, by go_num, rfl, hTi.1, hTi.2, hp6, hm6, K6⟩
                case measure => simp [intOf]; omega
              · have hj' : decide ((j : Int) < (M : Int)) = false := by simp; omega
                go_wp2_with fail
                have gP : ∀ z : Gr _, Pc z.1 g r f s := fun z => Blk.grown hp2 z.2 (by simp)
                have m0 := Blk.cell hm2 0
                have m1 := Blk.cell hm2 1
                have m2 := Blk.cell hm2 2
                simp at m0 m1 m2
                have y0 := Gr.cell m0
                have y1 := Gr.cell m1
                have y2 := Gr.cell m2
                have hws : wrap64 (waitOf (f) - (s)) = waitOf (f) - (s) := w64 _ (by have := waitOf_in (f); omega)
                have hne : (waitOf (f) - (s) != wrap64 (waitOf (f) - (s))) = false := by rw [hws]; simp
                have hne2 : (waitOf (f) - (s) != IntKind.i64.wrap (waitOf (f) - (s))) = false := by rw [i64_wrap, hws]; simp
                have hi2 : IntKind.i64.wrap (waitOf (f) - (s)) = waitOf (f) - (s) := by rw [i64_wrap, hws]
                have GP := Lib.hid gP
                clear gP
                refine wp_region_grown (by kernel_rfl) (by kernel_rfl) ?_
                repeat (go_big_quiet_step (first | (go_at_call 16; with_reducible exact Calls.grown _ (round_g _ g _ _ _ (GP.out _))) | (go_at_call 17; with_reducible exact Calls.grown _ (fails_g _ g _ _ _ (GP.out _))) | (go_at_call 18; with_reducible exact Calls.grown _ (left_is _ g _ (f) (s) (GP.out _) (by omega) (by have := waitOf_in (f); omega))) | (go_at_call 19; with_reducible exact Calls.grown _ (refWait_g _ (f)))))
                refine wpQuiet_nil ?_
                rintro _ ⟨⟨w9, k9⟩, rfl⟩
                go_wp2
                go_roundw
                case rel => exact ⟨k + 1, r, f, s, by omega, by go_num, by omega, by omega, by omega, by omega, Blk.grown hp2 k9 (by simp), Blk.grown hm2 k9 (by simp), grown_trans K2 k9⟩
                case measure => simp [intOf]; omega
          · have x0 := Blk.cell hX 0
            have x1 := Blk.cell hX 1
            simp at x0 x1
            go_wp2_with fail
            generalize wr.alloc (.cells #[.int .i64 x.k, .int .i64 x.r] 34) = wq at *
            have gP : ∀ z : Gr _, Pc z.1 g r f t := fun z => Blk.grown hp z.2 (by simp)
            have m0 := Blk.cell hm 0
            have m1 := Blk.cell hm 1
            have m2 := Blk.cell hm 2
            simp at m0 m1 m2
            have y0 := Gr.cell m0
            have y1 := Gr.cell m1
            have y2 := Gr.cell m2
            have hws : wrap64 (waitOf (f) - (t)) = waitOf (f) - (t) := w64 _ (by have := waitOf_in (f); omega)
            have hne : (waitOf (f) - (t) != wrap64 (waitOf (f) - (t))) = false := by rw [hws]; simp
            have hne2 : (waitOf (f) - (t) != IntKind.i64.wrap (waitOf (f) - (t))) = false := by rw [i64_wrap, hws]; simp
            have hi2 : IntKind.i64.wrap (waitOf (f) - (t)) = waitOf (f) - (t) := by rw [i64_wrap, hws]
            have GP := Lib.hid gP
            clear gP
            refine wp_region_grown (by kernel_rfl) (by kernel_rfl) ?_
            repeat (go_big_quiet_step (first | (go_at_call 16; with_reducible exact Calls.grown _ (round_g _ g _ _ _ (GP.out _))) | (go_at_call 17; with_reducible exact Calls.grown _ (fails_g _ g _ _ _ (GP.out _))) | (go_at_call 18; with_reducible exact Calls.grown _ (left_is _ g _ (f) (t) (GP.out _) (by omega) (by have := waitOf_in (f); omega))) | (go_at_call 19; with_reducible exact Calls.grown _ (refWait_g _ (f)))))
            refine wpQuiet_nil ?_
            rintro _ ⟨⟨w9, k9⟩, rfl⟩
            go_wp2
            go_roundw
            case rel => exact ⟨k + 1, r, f, t, by omega, by go_num, by omega, by omega, by omega, by omega, Blk.grown hp k9 (by simp), Blk.grown hm k9 (by simp), grown_trans K k9⟩
            case measure => simp [intOf]; omega
        · have hlt' : decide ((k : Int) < (n : Int)) = false := by simp; omega
          go_wp2_with fail
          go_ret
          exact ⟨rfl, K⟩
    · have hbad : round < 1 ∨ 1099511627776 < round := by omega
      have hd : decide (round < (1 : Int)) = true ∨ (decide (round < (1 : Int)) = false ∧ decide ((1099511627776 : Int) < round) = true) := by
        simp only [decide_eq_true_eq, decide_eq_false_iff_not]; omega
      clear hr
      rcases hd with d2 | ⟨d2, d3⟩
      all_goals
        go_enter Tryd.func3, Tryd.ntmps3
        go_wp2_with fail
        refine (pace_alive _ B (E 0) (E 13) (he.var 0 (by omega)) (he.var 13 (by omega))).mono ?_
        rintro en w1 ⟨rfl, k1⟩
        have he1 := he.grown k1 (by simp)
        go_wp2_with fail
        refine (new_bad _ B round (E 13) (he1.var 13 (by omega)) hbad).mono ?_
        rintro en w2 ⟨rfl, k2⟩
        go_wp2_with fail
        refine (num_err _ B E 13 (by omega) (he1.grown k2 (by simp))).mono ?_
        rintro en w3 ⟨rfl, k3⟩
        go_wp2_with fail
        go_ret
        exact ⟨rfl, grown_trans (grown_trans k1 k2) k3⟩
end Go.Proofs.YtfpjocinbnipgaaDoor
