/-
  Several texts in one: CdW, CdL.
-/
import Derived.Deep.Onto
import Derived.Test.YtebnebajedlhlaaDoorM9is
import Derived.Test.YtebnebajedlhlaaDoorM9iv
import Derived.Test.YtebnebajedlhlaaDoorM9iu
/-
  A Writer whose call began in the world w0: what is written so far, and that nothing older has turned.
-/
namespace Go.Proofs.YtebnebajedlhlaaDoor
open Go.RowKit

abbrev newF (w0 : World) : Nat → Prop := fun k => w0.heap.size ≤ k
/-- The Writer at g, in the blocks F; nothing that was there in w0 has turned. -/
structure WI (w0 : World) (E : Nat → Addr) (g : Nat) (F : Nat → Prop) (s : WSt) (w : World) : Prop where
  wr : WrIs w F g (evOf E s.1) s.2
  low : ∀ k, F k → w0.heap.size ≤ k
  kept : Kept (newF w0) w0 w
/-- What a call leaves that writes. -/
structure WP (w0 : World) (E : Nat → Addr) (g : Nat) (F : Nat → Prop) (s : WSt) (w w' : World) : Prop where
  wi : WI w0 E g (upTo F w.heap.size w'.heap.size) s w'
  fine : Kept F w w'
section
variable {w0 w w' w'' : World} {E : Nat → Addr} {g : Nat} {F : Nat → Prop} {s s' : WSt}
theorem WI.size (h : WI w0 E g F s w) : w0.heap.size ≤ w.heap.size := h.kept.size
theorem WI.next (h : WI w0 E g F s w) (k : Kept F w w') : Kept (newF w0) w0 w' := h.kept.follow k fun j _ hj => h.low j hj
theorem WI.step (h : WI w0 E g F s w) (k : Kept F w w') (hw : WrIs w' (upTo F w.heap.size w'.heap.size) g (evOf E s'.1) s'.2) : WP w0 E g F s' w w' :=
  ⟨⟨hw, fun j hj => by
    rcases hj with h1 | ⟨h1, _⟩
    · exact h.low j h1
    · exact Nat.le_trans h.size h1, h.next k⟩, k⟩
theorem WrIs.upTo {F : Nat → Prop} {v : Value} {l : List UInt8} (h : WrIs w F g v l) (a b : Nat) : WrIs w (upTo F a b) g v l := h.mono fun _ _ h => .inl h
theorem WI.grown (h : WI w0 E g F s w) (hg : w.grownBy w' none) : WP w0 E g F s w w' := h.step (Kept.of_grown hg fun _ e => by cases e) ((h.wr.grown hg).upTo _ _)
theorem WI.same (h : WI w0 E g F s w) : WP w0 E g F s w w := h.grown (World.grownBy.refl _ _)
theorem WP.trans (h : WP w0 E g F s w w') (k : WP w0 E g (upTo F w.heap.size w'.heap.size) s' w' w'') : WP w0 E g F s' w w'' := by
  have z1 := h.fine.size
  have z2 := k.fine.size
  refine ⟨⟨k.wi.wr.mono fun j _ hj => upTo_le z1 z2 j hj, fun j hj => ?_, k.wi.kept⟩, h.fine.trans k.fine⟩
  rcases hj with h1 | ⟨h1, h2⟩
  · exact h.wi.low j (.inl h1)
  · by_cases h3 : j < w'.heap.size
    · exact h.wi.low j (.inr ⟨h1, h3⟩)
    · exact k.wi.low j (.inr ⟨by omega, h2⟩)
theorem WP.alloc (h : WP w0 E g F s w w') (o : Obj) : WP w0 E g F s w (w'.alloc o) := h.trans (h.wi.grown (World.grownBy_alloc _ _ none))
theorem WP.drew (h : WP w0 E g F s w w') : WP w0 E g F s w w'.drew := ⟨⟨h.wi.wr.drew, h.wi.low, h.wi.kept.drew⟩, h.fine.drew⟩
theorem WI.drew (h : WI w0 E g F s w) : WI w0 E g F s w.drew := ⟨h.wr.drew, h.low, h.kept.drew⟩
/-- Blocks of one's own, laid ahead of what writes: they stay. -/
theorem WI.opened (h : WI w0 E g F s w) (hg : w.grownBy w' none) : WI w0 E g (fun k => F k ∧ k < w.heap.size) s w' :=
  ⟨(h.wr.mono (G := fun k => F k ∧ k < w.heap.size) fun j hj hf => ⟨hf, hj⟩).grown hg, fun j hj => h.low j hj.1, (h.grown hg).wi.kept⟩
theorem WP.closed (hi : WI w0 E g F s' w) (hg : w.grownBy w' none) (k : WP w0 E g (fun k => F k ∧ k < w.heap.size) s w' w'') : WP w0 E g F s w w'' := by
  have z1 := hg.size
  have z2 := k.fine.size
  refine ⟨⟨k.wi.wr.mono fun j _ hj => ?_, fun j hj => ?_, k.wi.kept⟩, (Kept.of_grown (F := F) hg fun _ e => by cases e).follow k.fine fun _ _ hj => hj.1⟩
  · rcases hj with ⟨h1, _⟩ | ⟨h1, h2⟩
    · exact .inl h1
    · exact .inr ⟨by omega, h2⟩
  · rcases hj with h1 | ⟨h1, h2⟩
    · by_cases h3 : j < w.heap.size
      · exact k.wi.low j (.inl ⟨h1, h3⟩)
      · exact Nat.le_trans hi.size (by omega)
    · exact Nat.le_trans hi.size h1
theorem WI.err {B k : Nat} {a : Addr} (h : WI w0 E g F s w) (he : ErrAt w0 B k a) (hB : B ≤ w0.heap.size) : ErrAt w B k a :=
  ⟨h.kept.cell he.1 (by have := he.2; show ¬ w0.heap.size ≤ k; omega), he.2⟩
theorem sFix_err (x : List UInt8) (k : Nat) (l : List UInt8) : sFix x (k + 1, l) = (k + 1, l) := rfl
theorem sFail_err (j k : Nat) (l : List UInt8) : sFail j (k + 1, l) = (k + 1, l) := rfl
theorem sNum_err (n m : Int) (k : Nat) (l : List UInt8) : sNum n m (k + 1, l) = (k + 1, l) := by unfold sNum; split <;> rfl

theorem fail_st (h : WI w0 E g F s w) (k : Nat) :
    Calls Tryd.prog 52 #[.pointer (some ⟨g, 0, none⟩), errV (E k)] w fun e w' => e = .returned (.tuple #[]) ∧ WP w0 E g F (sFail (k + 1) s) w w' := by
  obtain ⟨e0, l⟩ := s
  have hw := h.wr
  obtain ⟨hBg, bA, bc, hb, hown, hF⟩ := hw
  rcases e0 with _ | e0
  · refine (fail_new w g 114 _ _ _ hb).mono ?_
    rintro e w1 ⟨rfl, rfl⟩
    refine ⟨rfl, h.step ((Kept.refl F w).set (.inl hBg) _) (WrIs.upTo (g := g) ?_ _ _)⟩
    exact h.wr.failed
  · rw [sFail_err]
    refine (fail_old w g 114 _ _ _ _ hb).mono ?_
    rintro e w1 ⟨rfl, rfl⟩
    exact ⟨rfl, h.same⟩

theorem number_st (he : ErrAt w0 w0.heap.size 1 (E 0)) (h : WI w0 E g F s w) (hs : s.2.length ≤ 70368744177664) (n : Int) (k : Nat) :
    Calls Tryd.prog 34 #[.pointer (some ⟨g, 0, none⟩), .int .i64 n, .int .i64 (k : Int)] w fun e w' => e = .returned (.tuple #[]) ∧ WP w0 E g F (sNum n (k : Int) s) w w' := by
  have he' := h.err he (Nat.le_refl _)
  obtain ⟨e0, l⟩ := s
  rcases e0 with _ | e0
  · cases hb : badNum n (k : Int)
    · have hr : sNum n (k : Int) (0, l) = (0, l ++ be k n.toNat) := by simp [sNum, hb, sFix]
      have hb2 : 1 ≤ k ∧ k ≤ 8 ∧ 0 ≤ n ∧ n.toNat < 256 ^ k := by
        unfold badNum at hb
        simp only [Bool.or_eq_false_iff, decide_eq_false_iff_not, bne_eq_false_iff_eq] at hb
        obtain ⟨⟨⟨h1, h2⟩, h3⟩, h4⟩ := hb
        refine ⟨by omega, by omega, by omega, ?_⟩
        have e : n = (n.toNat : Int) := by omega
        rw [e, Int.toNat_natCast, shr_cast] at h4
        have h5 : n.toNat / 256 ^ k = 0 := by exact_mod_cast h4
        rcases Nat.div_eq_zero_iff.1 h5 with h6 | h6
        · exact absurd h6 (Nat.ne_of_gt (Nat.pow_pos (by omega)))
        · exact h6
      have e : n = (n.toNat : Int) := by omega
      rw [hr, e]
      refine (number_ok w F g l n.toNat k h.wr hb2.1 hb2.2.1 hb2.2.2.2 hs).mono ?_
      rintro e w1 ⟨rfl, h1, h2⟩
      exact ⟨rfl, h.step h2 h1⟩
    · have hr : sNum n (k : Int) (0, l) = (1, l) := by simp [sNum, hb, sFail]
      rw [hr]
      refine (number_bad w F w0.heap.size g l (E 0) n (k : Int) h.wr he' hb).mono ?_
      rintro e w1 ⟨rfl, h1, h2⟩
      exact ⟨rfl, h.step (Kept.of_grown h2 fun j hj => by cases hj; exact h.wr.1) (h1.upTo _ _)⟩
  · rw [sNum_err]
    refine (number_err w F w0.heap.size g _ _ l (E 0) n (k : Int) h.wr he').mono ?_
    rintro e w1 ⟨rfl, h1⟩
    exact ⟨rfl, h.grown h1⟩

theorem fixed_st (h : WI w0 E g F s w) (hs : s.2.length ≤ 70368744177664) (A : Option Addr) (m c : Nat) (x : List UInt8) (hm : x.length = m) (hm2 : m ≤ 1000000) (hx : BytesAt w A x) :
    Calls Tryd.prog 41 #[.pointer (some ⟨g, 0, none⟩), .slice A m c] w fun e w' => e = .returned (.tuple #[]) ∧ WP w0 E g F (sFix x s) w w' := by
  obtain ⟨e0, l⟩ := s
  rcases e0 with _ | e0
  · refine (fixed_ok w F g l A m c x hm h.wr hx (by simp only at hs; omega)).mono ?_
    rintro e w1 ⟨rfl, h1, h2⟩
    exact ⟨rfl, h.step h2 h1⟩
  · rw [sFix_err]
    refine (fixed_err w F g _ _ l A m c h.wr).mono ?_
    rintro e w1 ⟨rfl, rfl⟩
    exact ⟨rfl, h.same⟩

theorem bytes_st (he : ErrAt w0 w0.heap.size 1 (E 0)) (h : WI w0 E g F s w) (hs : s.2.length ≤ 70368744177664) (A : Option Addr) (m c : Nat) (x : List UInt8) (hm : x.length = m) (hx : BytesAt w A x) (hA : ∀ ad, A = some ad → x ≠ [] → ad.block < w0.heap.size) (most : Int) :
    Calls Tryd.prog 46 #[.pointer (some ⟨g, 0, none⟩), .slice A m c, .int .i64 most] w fun e w' => e = .returned (.tuple #[]) ∧ WP w0 E g F (sBytes x most s) w w' := by
  have he' := h.err he (Nat.le_refl _)
  subst hm
  obtain ⟨e0, l⟩ := s
  by_cases hb : most < (x.length : Int) ∨ 65535 < x.length
  · have hr : sBytes x most (e0, l) = sFail 1 (e0, l) := by unfold sBytes; rw [if_pos hb]
    rw [hr]
    rcases e0 with _ | e0
    · refine (bytes_bad w F w0.heap.size g l (E 0) A x.length c most h.wr he' hb).mono ?_
      rintro e w1 ⟨rfl, h1, h2⟩
      exact ⟨rfl, h.step (h2.mono fun j _ hj => by cases hj; exact h.wr.1) (h1.upTo _ _)⟩
    · refine (bytes_err w F w0.heap.size g _ _ l (E 0) A x.length c most h.wr he').mono ?_
      rintro e w1 ⟨rfl, h1⟩
      exact ⟨rfl, h.grown h1⟩
  · have hr : sBytes x most (e0, l) = sFix x (sNum (x.length : Int) 2 (e0, l)) := by unfold sBytes; rw [if_neg hb]
    rcases e0 with _ | e0
    · have h2 : x.length ≤ 65535 := by omega
      have hn : badNum (x.length : Int) 2 = false := by
        have h3 : (x.length : Int) / 2 ^ (8 * 2) = 0 := shr_zero (k := 2) (by omega)
        unfold badNum
        simp only [Bool.or_eq_false_iff, decide_eq_false_iff_not, bne_eq_false_iff_eq]
        exact ⟨⟨⟨by omega, by omega⟩, by omega⟩, h3⟩
      have hr2 : sBytes x most (0, l) = (0, l ++ (be 2 x.length ++ x)) := by rw [hr]; simp [sNum, hn, sFix]
      rw [hr2]
      refine (bytes_ok w F g l A x.length c most x rfl h.wr hx (fun ad e hne hf => by have := hA ad e hne; have := h.low _ hf; omega) hs (by omega) h2).mono ?_
      rintro e w1 ⟨rfl, h1, h2⟩
      exact ⟨rfl, h.step h2 h1⟩
    · rw [hr, sNum_err, sFix_err]
      refine (bytes_err w F w0.heap.size g _ _ l (E 0) A x.length c most h.wr he').mono ?_
      rintro e w1 ⟨rfl, h1⟩
      exact ⟨rfl, h.grown h1⟩
theorem new_st (w : World) (E : Nat → Addr) : Calls Tryd.prog 20 #[] w fun e w' => e = .returned (.pointer (some ⟨w.heap.size, 0, none⟩)) ∧ WI w E w.heap.size (newF w) (0, []) w' :=
  (new_ok w).mono (by
    rintro e w1 ⟨rfl, rfl⟩
    exact ⟨rfl, ⟨WrIs.new w (Nat.le_refl _), fun _ h => h, (Kept.refl _ _).alloc _⟩⟩)
theorem done_st (h : WI w0 E g F s w) (hs : s.2.length ≤ 70368744177664) :
    Calls Tryd.prog 21 #[.pointer (some ⟨g, 0, none⟩)] w fun e w' => w0.grownBy w' none ∧ ((s.1 = 0 ∧ ∃ A c, e = .returned (.tuple #[.slice A s.2.length c, .nilIface]) ∧ w'.ownsRow w0.heap.size 5 1 (.slice A s.2.length c) s.2.length (Lib.byteCells s.2)) ∨
      (s.1 ≠ 0 ∧ e = .returned (.tuple #[.slice none 0 0, evOf E s.1]))) := by
  have hz : ∀ w1, w.grownBy w1 none → w0.grownBy w1 none := fun w1 hg => (h.grown hg).wi.kept.grownNone fun k hk hn => by show False; exact absurd hk (by simpa using hn)
  obtain ⟨e0, l⟩ := s
  rcases e0 with _ | e0
  · refine (done_ok w F g l h.wr (by simp only at hs; omega)).mono ?_
    rintro e w1 ⟨A, c, rfl, h1, h2⟩
    exact ⟨hz _ h2, .inl ⟨rfl, A, c, rfl, h1.mono h.size⟩⟩
  · refine (done_err w F g _ _ l h.wr).mono ?_
    rintro e w1 ⟨rfl, h1⟩
    exact ⟨hz _ h1, .inr ⟨by simp, rfl⟩⟩
end
end Go.Proofs.YtebnebajedlhlaaDoor
/-
  What the lists that are written share: older memory stays, sizes and zero values of the elements.
-/
namespace Go.Proofs.YtebnebajedlhlaaDoor
open Go.RowKit

theorem range_low {w0 w : World} {b o : Nat} {cs : List Value} (k : Kept (newF w0) w0 w) (h : w0.rangeAt b o cs) : w.rangeAt b o cs := fun j v hv => k.cell (h j v hv) (by
  have := World.block_lt_of_cell? w0 _ (h j v hv)
  show ¬ w0.heap.size ≤ b
  simp only at this
  omega)
theorem range_blk0 {w : World} {g : Nat} {t : TypeId} {cs : Array Value} (h : Blk w g t cs) : w.rangeAt g 0 cs.toList := fun j v hv => by
  rw [Nat.zero_add, h.cell, ← Array.getElem?_toList]; exact hv
theorem long_cases0 {m : Nat} {most : Int} (h : most < (m : Int) ∨ 255 < m) : decide (most < (m : Int)) = true ∨ (decide (most < (m : Int)) = false ∧ decide ((255 : Int) < (m : Int)) = true) := by
  by_cases h1 : most < (m : Int)
  · exact .inl (by simpa using h1)
  · exact .inr ⟨by simpa using h1, by simp; omega⟩
section
variable {w0 w w1 w2 : World} {E : Nat → Addr} {g : Nat} {F : Nat → Prop} {s s' : WSt}
theorem nn_alloc {o : Obj} {j a : Nat} (h : ¬ upTo F a w.heap.size j) (hj : j < a) (ha : a ≤ w.heap.size) : ¬ upTo (upTo F a w.heap.size) w.heap.size (w.alloc o).heap.size j := fun hu => by
  rcases hu with hu | hu
  · exact h hu
  · omega
theorem drew_first (h : WI w0 E g F s w) (k : WP w0 E g F s' w.drew w1) : WP w0 E g F s' w w1 := ⟨k.wi, (Kept.refl F w).drew.follow k.fine fun _ _ h => h⟩
theorem WP.trans' (h : WP w0 E g F s w w1) (k : WP w0 E g (upTo F w.heap.size w1.heap.size) s' w1 w2) : WP w0 E g F s' w w2 := h.trans k
end
theorem sz_Dg : (Tryd.prog.info? 23).map (·.size) = some 16 := by kernel_rfl
theorem cz_Dg {x : List Int} (h : isDig x) : (dgV x).toArray.size = 16 := by rw [List.size_toArray, dgV_length, h.1]
theorem c1_Dg (x : List Int) : ((dgV x).toArray.all fun v => v.oneCell') = true := by rw [dgV_arr]; exact arr_one _ _
def zv_Dg : Array Value := arrV .u8 (List.replicate 16 0)
theorem zz_Dg (w : World) : Sem.run Tryd.prog (zeroValue 23) w = .ok (.agg zv_Dg) w := z16run w
theorem sz_Sg : (Tryd.prog.info? 48).map (·.size) = some 4 := by kernel_rfl
theorem cz_Sg {x : Sg} {P : Prop} (_ : P) : (x.cells.toList).toArray.size = 4 := by rw [Array.toArray_toList]; rfl
theorem c1_Sg (x : Sg) : ((x.cells.toList).toArray.all fun v => v.oneCell') = true := by rw [Array.toArray_toList]; exact sg_one x
def zv_Sg : Array Value := #[.int .i64 0, .int .i64 0, .slice none 0 0, .slice none 0 0]
theorem zz_Sg (w : World) : Sem.run Tryd.prog (zeroValue 48) w = .ok (.agg zv_Sg) w := zero_run3 w (by kernel_rfl)
theorem sz_Vd : (Tryd.prog.info? 90).map (·.size) = some 17 := by kernel_rfl
theorem cz_Vd {x : Vd} (h : isDig x.key) : x.cells.toArray.size = 17 := by rw [List.size_toArray, Vd.cells_length h.1]
theorem c1_Vd (x : Vd) : (x.cells.toArray.all fun v => v.oneCell') = true := by simp [Vd.cells, Value.oneCell']
def zv_Vd : Array Value := (List.replicate 16 (Value.int .u8 0) ++ [Value.int .i64 0]).toArray
theorem zz_Vd (w : World) : Sem.run Tryd.prog (zeroValue 90) w = .ok (.agg zv_Vd) w := zero_run3 w (by kernel_rfl)
end Go.Proofs.YtebnebajedlhlaaDoor
