/-
  RulesBytes: a state's bytes, by the document.
-/
import Derived.Test.YtjmdlpefacbmmaaDoorRb1
namespace Go.Proofs.YtjmdlpefacbmmaaDoor
open Go.RowKit

/-- What is appended to, under way: the bytes l. -/
structure OutAt (w0 w : World) (A : Option Addr) (n c : Nat) (l : List UInt8) : Prop where
  own : w.ownsRow 0 5 1 (.slice A n c) n (Lib.byteCells l)
  low : ∀ j, (Value.slice A n c).ownBlock = some j → w0.heap.size ≤ j
  kept : Kept (fun _ => False) w0 w
theorem OutAt.grown {w0 w w' : World} {A : Option Addr} {n c : Nat} {l : List UInt8} (h : OutAt w0 w A n c l) (k : w.grownBy w' none) : OutAt w0 w' A n c l :=
  ⟨own_kept h.own (Kept.of_grown (F := fun _ => False) k (fun _ e => by cases e)) (fun _ _ h => h), h.low, h.kept.follow (Kept.of_grown (F := fun _ => False) k (fun _ e => by cases e)) (fun _ _ h => h)⟩
theorem OutAt.app {w0 w w' : World} {A A' : Option Addr} {n c m c' : Nat} {l x : List UInt8} (h : OutAt w0 w A n c l) (hown : w'.ownsRow 0 5 1 (.slice A' (n + m) c') (n + m) (Lib.byteCells l ++ Lib.byteCells x)) (hg : w.grownBy w' (Value.slice A n c).ownBlock)
    (hat : (Value.slice A' (n + m) c').ownBlock = (Value.slice A n c).ownBlock ∨ (Value.slice A' (n + m) c').ownBlock = some w.heap.size) : OutAt w0 w' A' (n + m) c' (l ++ x) :=
  ⟨by rw [Lib.byteCells_append]; exact hown, fun j hj => by
    rcases hat with h1 | h1
    · exact h.low j (h1.symm.trans hj)
    · have := Option.some.inj (h1.symm.trans hj); have := h.kept.size; omega, h.kept.follow (Kept.of_grown (F := fun j => (Value.slice A n c).ownBlock = some j) hg (fun _ e => e)) (fun j hj e => by have := h.low j e; omega)⟩

set_option maxRecDepth 100000 in
set_option maxHeartbeats 2000000 in
theorem rbytes_ok (w : World) (e v l p f : Nat) (h : rightB e v l p f = true) :
    Calls Tryd.prog 19 #[stV e v l p f] w fun en w' => ∃ A c, en = .returned (.slice A 23 c) ∧ BytesAt w' A (stB e v l p f) ∧ w.grownBy w' none := by
  have HR := Lib.hid (right_yes _ _ _ _ _ h)
  obtain ⟨i0, hi0, hz0, hz1, hz2⟩ := info_parts u8_info
  have HI0 := Lib.hid (And.intro hi0 (And.intro hz0 (And.intro hz1 hz2)))
  have hwf : IntKind.u8.wrap (f : Int) = (f : Int) := by rw [IntKind.wrap_u8]; have := HR.out; omega
  have hf0 : (f : Int) % 256 = (f : Int) := by have := HR.out; omega
  have hb := Blk.new w 29 (stC e v l p f)
  have KA : Kept (fun _ => False) w (w.alloc (.cells (stC e v l p f) 29)) := (Kept.refl (fun _ => False) w).alloc _
  have c0 : (w.alloc (.cells (stC e v l p f) 29)).cell? ⟨w.heap.size, 0, none⟩ = some (.int .i64 (e : Int)) := hb.cell 0
  clear h hi0 hz0 hz1 hz2
  go_enter Tryd.func19, Tryd.ntmps19
  go_wp2_with fail
  generalize w.alloc (.cells (stC e v l p f) 29) = wA at *
  refine (refNumber_any wA e 4 (by have := HR.out; omega) (by omega) (by omega)).mono ?_
  rintro en w1 ⟨rfl, hk1, k1⟩
  have O1 : OutAt w w1 (some ⟨wA.heap.size, 0, none⟩) 4 4 (be 4 e) := ⟨own_of_blk hk1 (be_length 4 e) (by omega), fun j hj => by
    have h1 : wA.heap.size = j := by simpa [Value.ownBlock] using hj
    have := KA.size
    omega, KA.follow (Kept.of_grown (F := fun _ => False) k1 (fun _ e => by cases e)) (fun _ _ h => h)⟩
  have hb1 := hb.grown k1 (by simp)
  have c1 := hb1.cell 1
  have c2 := hb1.cell 2
  have c3 := hb1.cell 3
  simp at c1 c2 c3
  have HO1 := Lib.hid O1
  have HB1 := Lib.hid hb1
  clear O1 hb1 hb KA c0 hk1 k1
  go_wp2_with fail
  have kL := World.grownBy_alloc w1 (.cells #[.int .i64 (v : Int), .int .i64 (l : Int), .int .i64 (p : Int)] 3) none
  have HQ0 := Lib.hid (Blk.new w1 3 #[.int .i64 (v : Int), .int .i64 (l : Int), .int .i64 (p : Int)])
  have HB0 := Lib.hid (HB1.out.alloc (.cells #[.int .i64 (v : Int), .int .i64 (l : Int), .int .i64 (p : Int)] 3))
  have HO0 := Lib.hid (HO1.out.grown kL)
  clear kL HB1 HO1 c1 c2 c3
  generalize w1.alloc (.cells #[.int .i64 (v : Int), .int .i64 (l : Int), .int .i64 (p : Int)] 3) = y0 at *
  generalize w1.heap.size = q at *
  refine wp_loop_rounds 4 ?_
  rw [rounds_succ]
  have q0 : y0.cell? ⟨q, 0, none⟩ = some (.int .i64 (v : Int)) := HQ0.out.cell 0
  go_wp2_with fail
  refine (refNumber_any y0 v 6 (by have := HR.out; omega) (by omega) (by omega)).mono ?_
  rintro en z0 ⟨rfl, hk, k⟩
  have HX0 := Lib.hid (own_bytesAt (own_of_blk hk (be_length 6 v) (by omega)))
  have HP0 := Lib.hid (HO0.out.grown k)
  have HE0 := Lib.hid (HB0.out.grown k (by simp))
  have HF0 := Lib.hid (HQ0.out.grown k (by simp))
  clear hk k q0
  go_wp2_with (at_builtin
               refine wpList_append_bytes _ rfl _ _ 36 rfl 0 5 i0 (.int .u8 0) Tryd.underlying36 HI0.out.1 HI0.out.2.1 HI0.out.2.2.1 HI0.out.2.2.2 rfl _ _ _ rfl HP0.out.own (some ⟨y0.heap.size, 0, none⟩) 6 (be 6 v) (by rw [be_length]; rfl) HX0.out (by rw [be_length]; omega) (Nat.zero_le _) ?_
               intro A1 d1 y1 hown hg hat
               rw [be_length] at hown hat ⊢
               have HO1 := Lib.hid (HP0.out.app hown hg hat)
               have HB1 := Lib.hid (HE0.out.grown hg (own_ne HP0.out.own HE0.out (by decide)).symm)
               have HQ1 := Lib.hid (HF0.out.grown hg (own_ne HP0.out.own HF0.out (by decide)).symm)
               clear hown hg hat)
  rw [rounds_succ]
  have q1 : y1.cell? ⟨q, 1, none⟩ = some (.int .i64 (l : Int)) := HQ1.out.cell 1
  go_wp2_with fail
  refine (refNumber_any y1 l 6 (by have := HR.out; omega) (by omega) (by omega)).mono ?_
  rintro en z1 ⟨rfl, hk, k⟩
  have HX1 := Lib.hid (own_bytesAt (own_of_blk hk (be_length 6 l) (by omega)))
  have HP1 := Lib.hid (HO1.out.grown k)
  have HE1 := Lib.hid (HB1.out.grown k (by simp))
  have HF1 := Lib.hid (HQ1.out.grown k (by simp))
  clear hk k q1
  go_wp2_with (at_builtin
               refine wpList_append_bytes _ rfl _ _ 36 rfl 0 5 i0 (.int .u8 0) Tryd.underlying36 HI0.out.1 HI0.out.2.1 HI0.out.2.2.1 HI0.out.2.2.2 rfl _ _ _ rfl HP1.out.own (some ⟨y1.heap.size, 0, none⟩) 6 (be 6 l) (by rw [be_length]; rfl) HX1.out (by rw [be_length]; omega) (Nat.zero_le _) ?_
               intro A2 d2 y2 hown hg hat
               rw [be_length] at hown hat ⊢
               have HO2 := Lib.hid (HP1.out.app hown hg hat)
               have HB2 := Lib.hid (HE1.out.grown hg (own_ne HP1.out.own HE1.out (by decide)).symm)
               have HQ2 := Lib.hid (HF1.out.grown hg (own_ne HP1.out.own HF1.out (by decide)).symm)
               clear hown hg hat)
  rw [rounds_succ]
  have q2 : y2.cell? ⟨q, 2, none⟩ = some (.int .i64 (p : Int)) := HQ2.out.cell 2
  go_wp2_with fail
  refine (refNumber_any y2 p 6 (by have := HR.out; omega) (by omega) (by omega)).mono ?_
  rintro en z2 ⟨rfl, hk, k⟩
  have HX2 := Lib.hid (own_bytesAt (own_of_blk hk (be_length 6 p) (by omega)))
  have HP2 := Lib.hid (HO2.out.grown k)
  have HE2 := Lib.hid (HB2.out.grown k (by simp))
  have HF2 := Lib.hid (HQ2.out.grown k (by simp))
  clear hk k q2
  go_wp2_with (at_builtin
               refine wpList_append_bytes _ rfl _ _ 36 rfl 0 5 i0 (.int .u8 0) Tryd.underlying36 HI0.out.1 HI0.out.2.1 HI0.out.2.2.1 HI0.out.2.2.2 rfl _ _ _ rfl HP2.out.own (some ⟨y2.heap.size, 0, none⟩) 6 (be 6 p) (by rw [be_length]; rfl) HX2.out (by rw [be_length]; omega) (Nat.zero_le _) ?_
               intro A3 d3 y3 hown hg hat
               rw [be_length] at hown hat ⊢
               have HO3 := Lib.hid (HP2.out.app hown hg hat)
               have HB3 := Lib.hid (HE2.out.grown hg (own_ne HP2.out.own HE2.out (by decide)).symm)
               have HQ3 := Lib.hid (HF2.out.grown hg (own_ne HP2.out.own HF2.out (by decide)).symm)
               clear hown hg hat)
  rw [rounds_succ]
  have q4 : y3.cell? ⟨w.heap.size, 4, none⟩ = some (.int .i64 (f : Int)) := HB3.out.cell 4
  go_wp2_with (at_builtin
               have HP3 := Lib.hid (HO3.out.grown (World.grownBy_alloc y3 (.cells #[.int .u8 (f : Int)] 5) none))
               refine wpList_append_bytes _ rfl _ _ 36 rfl 0 5 i0 (.int .u8 0) Tryd.underlying36 HI0.out.1 HI0.out.2.1 HI0.out.2.2.1 HI0.out.2.2.2 rfl _ _ _ rfl HP3.out.own (some ⟨y3.heap.size, 0, none⟩) 1 [UInt8.ofNat f] rfl (BytesAt.one _ (by congr 1; have := HR.out; simp; omega)) (by simp) (Nat.zero_le _) ?_
               intro A4 d4 y4 hown hg hat
               have HO4 := Lib.hid (HP3.out.app (m := 1) hown hg hat)
               clear hown hg hat)
  go_ret
  refine ⟨A4, d4, rfl, ?_, HO4.out.kept.none_grown⟩
  have h1 := own_bytesAt HO4.out.own
  have h2 : stB e v l p f = ((be 4 e ++ be 6 v) ++ be 6 l ++ be 6 p) ++ [UInt8.ofNat f] := by
    simp [stB, be]
  rw [h2]
  exact h1
end Go.Proofs.YtjmdlpefacbmmaaDoor
