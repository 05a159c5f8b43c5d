/-
  Several texts in one: CdW, Av.
-/
import Derived.Deep.Onto
import Derived.Test.YtpdfkgmgmndcfaaDoorM20b
import Derived.Test.YtpdfkgmgmndcfaaDoorM20c
import Derived.Test.YtpdfkgmgmndcfaaDoorM20a
import Derived.WalkKit
import Derived.ChangeKeysEq
/-
  A Writer whose call began in the world w0: what is written so far, and that nothing older has turned.
-/
namespace Go.Proofs.YtpdfkgmgmndcfaaDoor
open Go.RowKit

abbrev newF (w0 : World) : Nat → Prop := fun k => w0.heap.size ≤ k
/-- The Writer at g, in the blocks F; nothing that was there in w0 has turned. -/
structure WI (w0 : World) (E : Nat → Addr) (g : Nat) (F : Nat → Prop) (s : WSt) (w : World) : Prop where
  wr : WrIs w F g (evOf E s.1) s.2
  low : ∀ k, F k → w0.heap.size ≤ k
  kept : Kept (newF w0) w0 w
/-- What a call leaves that writes. -/
structure WP (w0 : World) (E : Nat → Addr) (g : Nat) (F : Nat → Prop) (s : WSt) (w w' : World) : Prop where
  wi : WI w0 E g (upTo F w.heap.size w'.heap.size) s w'
  fine : Kept F w w'
section
variable {w0 w w' w'' : World} {E : Nat → Addr} {g : Nat} {F : Nat → Prop} {s s' : WSt}
theorem WI.size (h : WI w0 E g F s w) : w0.heap.size ≤ w.heap.size := h.kept.size
theorem WI.next (h : WI w0 E g F s w) (k : Kept F w w') : Kept (newF w0) w0 w' := h.kept.follow k fun j _ hj => h.low j hj
theorem WI.step (h : WI w0 E g F s w) (k : Kept F w w') (hw : WrIs w' (upTo F w.heap.size w'.heap.size) g (evOf E s'.1) s'.2) : WP w0 E g F s' w w' :=
  ⟨⟨hw, fun j hj => by
    rcases hj with h1 | ⟨h1, _⟩
    · exact h.low j h1
    · exact Nat.le_trans h.size h1, h.next k⟩, k⟩
theorem WrIs.upTo {F : Nat → Prop} {v : Value} {l : List UInt8} (h : WrIs w F g v l) (a b : Nat) : WrIs w (upTo F a b) g v l := h.mono fun _ _ h => .inl h
theorem WI.grown (h : WI w0 E g F s w) (hg : w.grownBy w' none) : WP w0 E g F s w w' := h.step (Kept.of_grown hg fun _ e => by cases e) ((h.wr.grown hg).upTo _ _)
theorem WI.same (h : WI w0 E g F s w) : WP w0 E g F s w w := h.grown (World.grownBy.refl _ _)
theorem WP.trans (h : WP w0 E g F s w w') (k : WP w0 E g (upTo F w.heap.size w'.heap.size) s' w' w'') : WP w0 E g F s' w w'' := by
  have z1 := h.fine.size
  have z2 := k.fine.size
  refine ⟨⟨k.wi.wr.mono fun j _ hj => upTo_le z1 z2 j hj, fun j hj => ?_, k.wi.kept⟩, h.fine.trans k.fine⟩
  rcases hj with h1 | ⟨h1, h2⟩
  · exact h.wi.low j (.inl h1)
  · by_cases h3 : j < w'.heap.size
    · exact h.wi.low j (.inr ⟨h1, h3⟩)
    · exact k.wi.low j (.inr ⟨by omega, h2⟩)
theorem WP.alloc (h : WP w0 E g F s w w') (o : Obj) : WP w0 E g F s w (w'.alloc o) := h.trans (h.wi.grown (World.grownBy_alloc _ _ none))
theorem WP.drew (h : WP w0 E g F s w w') : WP w0 E g F s w w'.drew := ⟨⟨h.wi.wr.drew, h.wi.low, h.wi.kept.drew⟩, h.fine.drew⟩
theorem WI.drew (h : WI w0 E g F s w) : WI w0 E g F s w.drew := ⟨h.wr.drew, h.low, h.kept.drew⟩
/-- Blocks of one's own, laid ahead of what writes: they stay. -/
theorem WI.opened (h : WI w0 E g F s w) (hg : w.grownBy w' none) : WI w0 E g (fun k => F k ∧ k < w.heap.size) s w' :=
  ⟨(h.wr.mono (G := fun k => F k ∧ k < w.heap.size) fun j hj hf => ⟨hf, hj⟩).grown hg, fun j hj => h.low j hj.1, (h.grown hg).wi.kept⟩
theorem WP.closed (hi : WI w0 E g F s' w) (hg : w.grownBy w' none) (k : WP w0 E g (fun k => F k ∧ k < w.heap.size) s w' w'') : WP w0 E g F s w w'' := by
  have z1 := hg.size
  have z2 := k.fine.size
  refine ⟨⟨k.wi.wr.mono fun j _ hj => ?_, fun j hj => ?_, k.wi.kept⟩, (Kept.of_grown (F := F) hg fun _ e => by cases e).follow k.fine fun _ _ hj => hj.1⟩
  · rcases hj with ⟨h1, _⟩ | ⟨h1, h2⟩
    · exact .inl h1
    · exact .inr ⟨by omega, h2⟩
  · rcases hj with h1 | ⟨h1, h2⟩
    · by_cases h3 : j < w.heap.size
      · exact k.wi.low j (.inl ⟨h1, h3⟩)
      · exact Nat.le_trans hi.size (by omega)
    · exact Nat.le_trans hi.size h1
theorem WI.err {B k : Nat} {a : Addr} (h : WI w0 E g F s w) (he : ErrAt w0 B k a) (hB : B ≤ w0.heap.size) : ErrAt w B k a :=
  ⟨h.kept.cell he.1 (by have := he.2; show ¬ w0.heap.size ≤ k; omega), he.2⟩
theorem sFix_err (x : List UInt8) (k : Nat) (l : List UInt8) : sFix x (k + 1, l) = (k + 1, l) := rfl
theorem sFail_err (j k : Nat) (l : List UInt8) : sFail j (k + 1, l) = (k + 1, l) := rfl
theorem sNum_err (n m : Int) (k : Nat) (l : List UInt8) : sNum n m (k + 1, l) = (k + 1, l) := by unfold sNum; split <;> rfl

theorem fail_st (h : WI w0 E g F s w) (k : Nat) :
    Calls Tryd.prog 66 #[.pointer (some ⟨g, 0, none⟩), errV (E k)] w fun e w' => e = .returned (.tuple #[]) ∧ WP w0 E g F (sFail (k + 1) s) w w' := by
  obtain ⟨e0, l⟩ := s
  have hw := h.wr
  obtain ⟨hBg, bA, bc, hb, hown, hF⟩ := hw
  rcases e0 with _ | e0
  · refine (fail_new w g 116 _ _ _ hb).mono ?_
    rintro e w1 ⟨rfl, rfl⟩
    refine ⟨rfl, h.step ((Kept.refl F w).set (.inl hBg) _) (WrIs.upTo (g := g) ?_ _ _)⟩
    exact h.wr.failed
  · rw [sFail_err]
    refine (fail_old w g 116 _ _ _ _ hb).mono ?_
    rintro e w1 ⟨rfl, rfl⟩
    exact ⟨rfl, h.same⟩

theorem number_st (he : ErrAt w0 w0.heap.size 3 (E 0)) (h : WI w0 E g F s w) (hs : s.2.length ≤ 70368744177664) (n : Int) (k : Nat) :
    Calls Tryd.prog 55 #[.pointer (some ⟨g, 0, none⟩), .int .i64 n, .int .i64 (k : Int)] w fun e w' => e = .returned (.tuple #[]) ∧ WP w0 E g F (sNum n (k : Int) s) w w' := by
  have he' := h.err he (Nat.le_refl _)
  obtain ⟨e0, l⟩ := s
  rcases e0 with _ | e0
  · cases hb : badNum n (k : Int)
    · have hr : sNum n (k : Int) (0, l) = (0, l ++ be k n.toNat) := by simp [sNum, hb, sFix]
      have hb2 : 1 ≤ k ∧ k ≤ 8 ∧ 0 ≤ n ∧ n.toNat < 256 ^ k := by
        unfold badNum at hb
        simp only [Bool.or_eq_false_iff, decide_eq_false_iff_not, bne_eq_false_iff_eq] at hb
        obtain ⟨⟨⟨h1, h2⟩, h3⟩, h4⟩ := hb
        refine ⟨by omega, by omega, by omega, ?_⟩
        have e : n = (n.toNat : Int) := by omega
        rw [e, Int.toNat_natCast, shr_cast] at h4
        have h5 : n.toNat / 256 ^ k = 0 := by exact_mod_cast h4
        rcases Nat.div_eq_zero_iff.1 h5 with h6 | h6
        · exact absurd h6 (Nat.ne_of_gt (Nat.pow_pos (by omega)))
        · exact h6
      have e : n = (n.toNat : Int) := by omega
      rw [hr, e]
      refine (number_ok w F g l n.toNat k h.wr hb2.1 hb2.2.1 hb2.2.2.2 hs).mono ?_
      rintro e w1 ⟨rfl, h1, h2⟩
      exact ⟨rfl, h.step h2 h1⟩
    · have hr : sNum n (k : Int) (0, l) = (1, l) := by simp [sNum, hb, sFail]
      rw [hr]
      refine (number_bad w F w0.heap.size g l (E 0) n (k : Int) h.wr he' hb).mono ?_
      rintro e w1 ⟨rfl, h1, h2⟩
      exact ⟨rfl, h.step (Kept.of_grown h2 fun j hj => by cases hj; exact h.wr.1) (h1.upTo _ _)⟩
  · rw [sNum_err]
    refine (number_err w F w0.heap.size g _ _ l (E 0) n (k : Int) h.wr he').mono ?_
    rintro e w1 ⟨rfl, h1⟩
    exact ⟨rfl, h.grown h1⟩

theorem fixed_st (h : WI w0 E g F s w) (hs : s.2.length ≤ 70368744177664) (A : Option Addr) (m c : Nat) (x : List UInt8) (hm : x.length = m) (hm2 : m ≤ 1000000) (hx : BytesAt w A x) :
    Calls Tryd.prog 56 #[.pointer (some ⟨g, 0, none⟩), .slice A m c] w fun e w' => e = .returned (.tuple #[]) ∧ WP w0 E g F (sFix x s) w w' := by
  obtain ⟨e0, l⟩ := s
  rcases e0 with _ | e0
  · refine (fixed_ok w F g l A m c x hm h.wr hx (by simp only at hs; omega)).mono ?_
    rintro e w1 ⟨rfl, h1, h2⟩
    exact ⟨rfl, h.step h2 h1⟩
  · rw [sFix_err]
    refine (fixed_err w F g _ _ l A m c h.wr).mono ?_
    rintro e w1 ⟨rfl, rfl⟩
    exact ⟨rfl, h.same⟩

theorem bytes_st (he : ErrAt w0 w0.heap.size 3 (E 0)) (h : WI w0 E g F s w) (hs : s.2.length ≤ 70368744177664) (A : Option Addr) (m c : Nat) (x : List UInt8) (hm : x.length = m) (hx : BytesAt w A x) (hA : ∀ ad, A = some ad → x ≠ [] → ad.block < w0.heap.size) (most : Int) :
    Calls Tryd.prog 61 #[.pointer (some ⟨g, 0, none⟩), .slice A m c, .int .i64 most] w fun e w' => e = .returned (.tuple #[]) ∧ WP w0 E g F (sBytes x most s) w w' := by
  have he' := h.err he (Nat.le_refl _)
  subst hm
  obtain ⟨e0, l⟩ := s
  by_cases hb : most < (x.length : Int) ∨ 65535 < x.length
  · have hr : sBytes x most (e0, l) = sFail 1 (e0, l) := by unfold sBytes; rw [if_pos hb]
    rw [hr]
    rcases e0 with _ | e0
    · refine (bytes_bad w F w0.heap.size g l (E 0) A x.length c most h.wr he' hb).mono ?_
      rintro e w1 ⟨rfl, h1, h2⟩
      exact ⟨rfl, h.step (h2.mono fun j _ hj => by cases hj; exact h.wr.1) (h1.upTo _ _)⟩
    · refine (bytes_err w F w0.heap.size g _ _ l (E 0) A x.length c most h.wr he').mono ?_
      rintro e w1 ⟨rfl, h1⟩
      exact ⟨rfl, h.grown h1⟩
  · have hr : sBytes x most (e0, l) = sFix x (sNum (x.length : Int) 2 (e0, l)) := by unfold sBytes; rw [if_neg hb]
    rcases e0 with _ | e0
    · have h2 : x.length ≤ 65535 := by omega
      have hn : badNum (x.length : Int) 2 = false := by
        have h3 : (x.length : Int) / 2 ^ (8 * 2) = 0 := shr_zero (k := 2) (by omega)
        unfold badNum
        simp only [Bool.or_eq_false_iff, decide_eq_false_iff_not, bne_eq_false_iff_eq]
        exact ⟨⟨⟨by omega, by omega⟩, by omega⟩, h3⟩
      have hr2 : sBytes x most (0, l) = (0, l ++ (be 2 x.length ++ x)) := by rw [hr]; simp [sNum, hn, sFix]
      rw [hr2]
      refine (bytes_ok w F g l A x.length c most x rfl h.wr hx (fun ad e hne hf => by have := hA ad e hne; have := h.low _ hf; omega) hs (by omega) h2).mono ?_
      rintro e w1 ⟨rfl, h1, h2⟩
      exact ⟨rfl, h.step h2 h1⟩
    · rw [hr, sNum_err, sFix_err]
      refine (bytes_err w F w0.heap.size g _ _ l (E 0) A x.length c most h.wr he').mono ?_
      rintro e w1 ⟨rfl, h1⟩
      exact ⟨rfl, h.grown h1⟩
theorem new_st (w : World) (E : Nat → Addr) : Calls Tryd.prog 42 #[] w fun e w' => e = .returned (.pointer (some ⟨w.heap.size, 0, none⟩)) ∧ WI w E w.heap.size (newF w) (0, []) w' :=
  (new_ok w).mono (by
    rintro e w1 ⟨rfl, rfl⟩
    exact ⟨rfl, ⟨WrIs.new w (Nat.le_refl _), fun _ h => h, (Kept.refl _ _).alloc _⟩⟩)
theorem done_st (h : WI w0 E g F s w) (hs : s.2.length ≤ 70368744177664) :
    Calls Tryd.prog 43 #[.pointer (some ⟨g, 0, none⟩)] w fun e w' => w0.grownBy w' none ∧ ((s.1 = 0 ∧ ∃ A c, e = .returned (.tuple #[.slice A s.2.length c, .nilIface]) ∧ w'.ownsRow w0.heap.size 5 1 (.slice A s.2.length c) s.2.length (Lib.byteCells s.2)) ∨
      (s.1 ≠ 0 ∧ e = .returned (.tuple #[.slice none 0 0, evOf E s.1]))) := by
  have hz : ∀ w1, w.grownBy w1 none → w0.grownBy w1 none := fun w1 hg => (h.grown hg).wi.kept.grownNone fun k hk hn => by show False; exact absurd hk (by simpa using hn)
  obtain ⟨e0, l⟩ := s
  rcases e0 with _ | e0
  · refine (done_ok w F g l h.wr (by simp only at hs; omega)).mono ?_
    rintro e w1 ⟨A, c, rfl, h1, h2⟩
    exact ⟨hz _ h2, .inl ⟨rfl, A, c, rfl, h1.mono h.size⟩⟩
  · refine (done_err w F g _ _ l h.wr).mono ?_
    rintro e w1 ⟨rfl, h1⟩
    exact ⟨hz _ h1, .inr ⟨by simp, rfl⟩⟩
end
end Go.Proofs.YtpdfkgmgmndcfaaDoor
/-
  Arrays as lists of numbers.
-/
namespace Go.Proofs.YtpdfkgmgmndcfaaDoor
open Go.RowKit

theorem w64 (n : Int) (h : -9223372036854775808 ≤ n ∧ n ≤ 9223372036854775807) : wrap64 n = n := by unfold wrap64; omega

/-! ## Arrays as lists -/

abbrev arrV (q : IntKind) (l : List Int) : Array Value := (l.map (Value.int q)).toArray
theorem arr_get {q : IntKind} {l : List Int} {k : Nat} (h : k < l.length) : (arrV q l)[k]? = some (.int q (l.getD k 0)) := by
  simp [arrV, List.getElem?_map, List.getElem?_eq_getElem h]
theorem arr_set {q : IntKind} {l : List Int} {k : Nat} (x : Int) : (arrV q l).setIfInBounds k (.int q x) = arrV q (l.set k x) := by
  simp [arrV, List.map_set]
theorem arr_push {q : IntKind} {W : List Int} {n : Nat} (x : Int) (h : W.length < n) : (arrV q (W ++ List.replicate (n - W.length) 0)).setIfInBounds W.length (.int q x) = arrV q (W ++ [x] ++ List.replicate (n - (W.length + 1)) 0) := by
  rw [arr_set]
  congr 1
  obtain ⟨m, hm⟩ : ∃ m, n - W.length = m + 1 := ⟨n - W.length - 1, by omega⟩
  rw [hm, show n - (W.length + 1) = m by omega, List.replicate_succ]
  simp
theorem arr_size {q : IntKind} {l : List Int} : (arrV q l).size = l.length := by simp [arrV]
theorem z64 : arrV .u32 (List.replicate 64 0) = #[.int .u32 0, .int .u32 0, .int .u32 0, .int .u32 0, .int .u32 0, .int .u32 0, .int .u32 0, .int .u32 0, .int .u32 0, .int .u32 0, .int .u32 0, .int .u32 0, .int .u32 0, .int .u32 0, .int .u32 0, .int .u32 0, .int .u32 0, .int .u32 0, .int .u32 0, .int .u32 0, .int .u32 0, .int .u32 0, .int .u32 0, .int .u32 0, .int .u32 0, .int .u32 0, .int .u32 0, .int .u32 0, .int .u32 0, .int .u32 0, .int .u32 0, .int .u32 0, .int .u32 0, .int .u32 0, .int .u32 0, .int .u32 0, .int .u32 0, .int .u32 0, .int .u32 0, .int .u32 0, .int .u32 0, .int .u32 0, .int .u32 0, .int .u32 0, .int .u32 0, .int .u32 0, .int .u32 0, .int .u32 0, .int .u32 0, .int .u32 0, .int .u32 0, .int .u32 0, .int .u32 0, .int .u32 0, .int .u32 0, .int .u32 0, .int .u32 0, .int .u32 0, .int .u32 0, .int .u32 0, .int .u32 0, .int .u32 0, .int .u32 0, .int .u32 0] := by kernel_rfl
theorem z64b : arrV .u8 (List.replicate 64 0) = #[.int .u8 0, .int .u8 0, .int .u8 0, .int .u8 0, .int .u8 0, .int .u8 0, .int .u8 0, .int .u8 0, .int .u8 0, .int .u8 0, .int .u8 0, .int .u8 0, .int .u8 0, .int .u8 0, .int .u8 0, .int .u8 0, .int .u8 0, .int .u8 0, .int .u8 0, .int .u8 0, .int .u8 0, .int .u8 0, .int .u8 0, .int .u8 0, .int .u8 0, .int .u8 0, .int .u8 0, .int .u8 0, .int .u8 0, .int .u8 0, .int .u8 0, .int .u8 0, .int .u8 0, .int .u8 0, .int .u8 0, .int .u8 0, .int .u8 0, .int .u8 0, .int .u8 0, .int .u8 0, .int .u8 0, .int .u8 0, .int .u8 0, .int .u8 0, .int .u8 0, .int .u8 0, .int .u8 0, .int .u8 0, .int .u8 0, .int .u8 0, .int .u8 0, .int .u8 0, .int .u8 0, .int .u8 0, .int .u8 0, .int .u8 0, .int .u8 0, .int .u8 0, .int .u8 0, .int .u8 0, .int .u8 0, .int .u8 0, .int .u8 0, .int .u8 0] := by kernel_rfl
theorem z32b : arrV .u8 (List.replicate 32 0) = #[.int .u8 0, .int .u8 0, .int .u8 0, .int .u8 0, .int .u8 0, .int .u8 0, .int .u8 0, .int .u8 0, .int .u8 0, .int .u8 0, .int .u8 0, .int .u8 0, .int .u8 0, .int .u8 0, .int .u8 0, .int .u8 0, .int .u8 0, .int .u8 0, .int .u8 0, .int .u8 0, .int .u8 0, .int .u8 0, .int .u8 0, .int .u8 0, .int .u8 0, .int .u8 0, .int .u8 0, .int .u8 0, .int .u8 0, .int .u8 0, .int .u8 0, .int .u8 0] := by kernel_rfl

theorem grown_far {w w1 : World} {row : Option Nat} (h : w.grownBy w1 row) {p : Addr} (hp : w.heap.size ≤ p.block ∨ row = some p.block) (u : Value) : w.grownBy (w1.setCell p u) row :=
  ⟨h.os, h.tape, h.output, by simpa using h.size, fun k hk hne => (Below.heap_setCell w1 p u k (fun e => hp.elim (fun hp => by omega) (fun hp => hne (by rw [e]; exact hp.symm)))).trans (h.block k hk hne)⟩

theorem Blk.row {w : World} {g : Nat} {t : TypeId} {old : Array Value} (h : Blk w g t old) (cs : Array Value) : Blk (w.setRow g cs) g t cs := setRow_heap w g old cs t (0, 0) h
theorem Blk.farRow {w : World} {g g' : Nat} {t : TypeId} {cs : Array Value} (h : Blk w g t cs) (hne : g ≠ g') (cs' : Array Value) : Blk (w.setRow g' cs') g t cs := (setRow_other w g' g cs' hne).trans h
theorem grown_row {w w1 : World} {row : Option Nat} (h : w.grownBy w1 row) {g : Nat} (hp : w.heap.size ≤ g ∨ row = some g) (cs : Array Value) : w.grownBy (w1.setRow g cs) row :=
  ⟨(setRow_os w1 g cs).trans h.os, (setRow_tape w1 g cs).trans h.tape, (setRow_output w1 g cs).trans h.output, by rw [setRow_size]; exact h.size, fun k hk hne => (setRow_other w1 g k cs (fun e => hp.elim (fun hp => by omega) (fun hp => hne (by rw [e]; exact hp.symm)))).trans (h.block k hk hne)⟩
theorem results_cell {fn : Func} {s : Tmp} {t : TypeId} (h : fn.results = #[.cell s t]) (tmps : Array Value) (P : Program) (w : World) (p : Addr) (v : Value)
    (hp : tmps.getD s undef = .pointer (some p)) (hl : (loadVar t p).run P w = .ok v w) : (results fn tmps).run P w = .ok v w := by
  have hq : tmps[s]?.getD undef = .pointer (some p) := by simpa using hp
  simp [results, h, hq, asAddr, hl]

section
variable {P : Program}
theorem run_index_agg {w : World} {t e : TypeId} {n : Nat} {i : Int} {cs : Array Value} {v : Value} (h : P.underlying t = some (.array n e)) (he : P.plainKey e = true) (hs : (P.info? e).map (·.size) = some 1) (hb : 0 ≤ i ∧ i < (n : Int)) (hv : cs[i.toNat]? = some v) :
    Sem.run P (Instr.index t (.agg cs) (.int .i64 i)) w = .ok v w := by
  have hp := run_part_plain (w := w) he hv
  cases hq : P.info? e with
  | none => simp [hq] at hs
  | some ei =>
    have hi : ei.size = 1 := by simpa [hq] using hs
    simp [Instr.index, run_underlying h, asIntOf, hb, sizeOf, typeInfo, hq, hi, hp]
end
theorem grown_fresh {a b c : World} {row : Option Nat} {ge : Nat} (h : a.grownBy b row) (k : b.grownBy c (some ge)) (hge : a.heap.size ≤ ge) : a.grownBy c row :=
  ⟨k.os.trans h.os, k.tape.trans h.tape, k.output.trans h.output, Nat.le_trans h.size k.size, fun i hi hne => (k.block i (Nat.lt_of_lt_of_le hi h.size) (by intro e; have := Option.some.inj e; omega)).trans (h.block i hi hne)⟩
end Go.Proofs.YtpdfkgmgmndcfaaDoor
