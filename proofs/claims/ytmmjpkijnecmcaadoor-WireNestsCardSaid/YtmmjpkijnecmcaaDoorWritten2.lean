/-
  The document's own bytes of an op: written.
-/
import Derived.Test.YtmmjpkijnecmcaaDoorWritten
import Derived.Deep.RegionHeld3
namespace Go.Proofs.YtmmjpkijnecmcaaDoor
open Go.RowKit

/-- What 'written' answers of an op. -/
def Wrote (w : World) (o : OpV) (e : Ending) (w' : World) : Prop :=
  ∃ A' c', e = .returned (.tuple #[.slice A' (wBytes o).length c', .int .i64 (wErr o : Nat)]) ∧ BytesAt w' A' (wBytes o) ∧ w.grownBy w' none
theorem wrote_of {w : World} {o : OpV} {e : Ending} {w' : World} {A' : Option Addr} {c' m k : Nat} {l : List UInt8} (hb : wBytes o = l) (he : wErr o = k) (hm : l.length = m) (h : e = .returned (.tuple #[.slice A' m c', .int .i64 (k : Nat)])) (hl : BytesAt w' A' l) (hg : w.grownBy w' none) : Wrote w o e w' := by
  subst hb he hm
  exact ⟨A', c', h, hl, hg⟩

theorem be_byte {m : Nat} (h : m ≤ 255) : Lib.byteCells (be 1 m) = [Value.int .u8 (m : Int)] := by
  simp [be, Lib.byteCells]
  omega
theorem grown_own {a b c : World} {row : Option Nat} (h : a.grownBy b none) (k : b.grownBy c row) (hr : ∀ g, row = some g → a.heap.size ≤ g) : a.grownBy c none :=
  ⟨k.os.trans h.os, k.tape.trans h.tape, k.output.trans h.output, Nat.le_trans h.size k.size, fun i hi hne => (k.block i (Nat.lt_of_lt_of_le hi h.size) (by intro e; have := hr i e.symm; omega)).trans (h.block i hi hne)⟩

section
variable (w : World) (kind n width most : Int) (x : List UInt8) (A : Option Addr) (c : Nat)
set_option maxHeartbeats 400000 in
theorem wrote1b (t1 : (kind == 1) = true) (hmax : n ≤ 9223372036854775807) (hbad : badNum n width = true) :
    Calls Tryd.prog 14 #[.agg #[.int .i64 kind, .int .i64 n, .int .i64 width, .int .i64 most, .slice A x.length c]] w (Wrote w ⟨kind, n, width, most, x⟩) := by
  have k0 := World.grownBy_alloc w (.cells #[.int .i64 kind, .int .i64 n, .int .i64 width, .int .i64 most, .slice A x.length c] 29) none
  have hb : wBytes ⟨kind, n, width, most, x⟩ = [] := by simp [wBytes, t1, hbad]
  have he : wErr ⟨kind, n, width, most, x⟩ = 1 := by simp [wErr, t1, hbad]
  have Hb := Lib.hid hb
  have He := Lib.hid he
  clear hb he
  go_enter Tryd.func14, Tryd.ntmps14
  go_wp2_with (go_at_call 45; refine (fits_any _ n width hmax).mono ?_; rintro e w1 ⟨rfl, rfl⟩)
  go_ret2
  exact wrote_of Hb.out He.out rfl rfl (BytesAt.nil _ none) k0
set_option maxHeartbeats 400000 in
theorem wrote1 (t1 : (kind == 1) = true) (hmax : n ≤ 9223372036854775807) (hbad : badNum n width = false) :
    Calls Tryd.prog 14 #[.agg #[.int .i64 kind, .int .i64 n, .int .i64 width, .int .i64 most, .slice A x.length c]] w (Wrote w ⟨kind, n, width, most, x⟩) := by
  have k0 := World.grownBy_alloc w (.cells #[.int .i64 kind, .int .i64 n, .int .i64 width, .int .i64 most, .slice A x.length c] 29) none
  obtain ⟨m, k, rfl, rfl, h1, h8, hm⟩ := goodNum hbad
  have hb : wBytes ⟨kind, (m : Int), (k : Int), most, x⟩ = be k m := by simp [wBytes, t1, hbad]
  have he : wErr ⟨kind, (m : Int), (k : Int), most, x⟩ = 0 := by simp [wErr, t1, hbad]
  have Hb := Lib.hid hb
  have He := Lib.hid he
  clear hb he
  go_enter Tryd.func14, Tryd.ntmps14
  go_wp2_with (go_at_call 45; refine (fits_any _ _ _ hmax).mono ?_; rintro e w1 ⟨rfl, rfl⟩)
  refine (refNumber_any _ m k hmax h1 h8).mono ?_
  rintro e w1 ⟨rfl, hb1, k1⟩
  go_wp2_with fail
  go_ret2
  have hb2 : Blk w1 (w.heap.size + 1) 5 (Lib.byteCells (be k m)).toArray := by simpa using hb1
  exact wrote_of Hb.out He.out (be_length k m) rfl (own_bytesAt (own_of_blk hb2 (be_length k m) (by omega))) (grown_trans k0 k1)
set_option maxHeartbeats 400000 in
theorem wrote2 (t1 : (kind == 1) = false) (t2 : (kind == 2) = true) :
    Calls Tryd.prog 14 #[.agg #[.int .i64 kind, .int .i64 n, .int .i64 width, .int .i64 most, .slice A x.length c]] w (Wrote w ⟨kind, n, width, most, x⟩) := by
  have k0 := World.grownBy_alloc w (.cells #[.int .i64 kind, .int .i64 n, .int .i64 width, .int .i64 most, .slice A x.length c] 29) none
  have e01 : bits BinOp.and IntKind.i64 n 1 = 0 ∨ bits BinOp.and IntKind.i64 n 1 = 1 := bit01 n
  have hv : Value.int .u8 (IntKind.u8.wrap (bits BinOp.and IntKind.i64 n 1)) = .int .u8 ((if bits BinOp.and IntKind.i64 n 1 == 1 then (1 : UInt8) else 0).toNat : Nat) := by
    rcases e01 with h | h <;> rw [h] <;> rfl
  have Hv := Lib.hid hv
  clear hv e01
  have hb : wBytes ⟨kind, n, width, most, x⟩ = [if bits BinOp.and IntKind.i64 n 1 == 1 then 1 else 0] := by simp [wBytes, t1, t2]
  have he : wErr ⟨kind, n, width, most, x⟩ = 0 := by simp [wErr, t1, t2]
  have Hb := Lib.hid hb
  have He := Lib.hid he
  clear hb he
  go_enter Tryd.func14, Tryd.ntmps14
  go_wp2
  go_ret2
  have h1 : BytesAt ((w.alloc (.cells #[.int .i64 kind, .int .i64 n, .int .i64 width, .int .i64 most, .slice A x.length c] 29)).alloc (.cells #[.int .u8 (IntKind.u8.wrap (bits BinOp.and IntKind.i64 n 1))] 5)) (some ⟨w.heap.size + 1, 0, none⟩) [if bits BinOp.and IntKind.i64 n 1 == 1 then 1 else 0] := by
    have := BytesAt.one (w.alloc (.cells #[.int .i64 kind, .int .i64 n, .int .i64 width, .int .i64 most, .slice A x.length c] 29)) (t := 5) Hv.out
    simpa using this
  exact wrote_of Hb.out He.out rfl rfl h1 (grown_trans k0 (World.grownBy_alloc _ _ _))
set_option maxHeartbeats 400000 in
theorem wrote3 (t1 : (kind == 1) = false) (t2 : (kind == 2) = false) (t3 : (kind == 3) = true) (hx : BytesAt w A x) :
    Calls Tryd.prog 14 #[.agg #[.int .i64 kind, .int .i64 n, .int .i64 width, .int .i64 most, .slice A x.length c]] w (Wrote w ⟨kind, n, width, most, x⟩) := by
  have k0 := World.grownBy_alloc w (.cells #[.int .i64 kind, .int .i64 n, .int .i64 width, .int .i64 most, .slice A x.length c] 29) none
  have hb : wBytes ⟨kind, n, width, most, x⟩ = x := by simp [wBytes, t1, t2, t3]
  have he : wErr ⟨kind, n, width, most, x⟩ = 0 := by simp [wErr, t1, t2, t3]
  have Hb := Lib.hid hb
  have He := Lib.hid he
  clear hb he
  have hx1 := hx.alloc (.cells #[.int .i64 kind, .int .i64 n, .int .i64 width, .int .i64 most, .slice A x.length c] 29)
  go_enter Tryd.func14, Tryd.ntmps14
  go_wp2
  go_ret2
  exact wrote_of Hb.out He.out rfl rfl hx1 k0
set_option maxHeartbeats 400000 in
theorem wrote4b (t1 : (kind == 1) = false) (t2 : (kind == 2) = false) (t3 : (kind == 3) = false) (t4 : (kind == 4) = true) (hlong : most < (x.length : Int) ∨ 65535 < x.length) :
    Calls Tryd.prog 14 #[.agg #[.int .i64 kind, .int .i64 n, .int .i64 width, .int .i64 most, .slice A x.length c]] w (Wrote w ⟨kind, n, width, most, x⟩) := by
  have k0 := World.grownBy_alloc w (.cells #[.int .i64 kind, .int .i64 n, .int .i64 width, .int .i64 most, .slice A x.length c] 29) none
  have hb : wBytes ⟨kind, n, width, most, x⟩ = [] := by simp [wBytes, t1, t2, t3, t4, hlong]
  have he : wErr ⟨kind, n, width, most, x⟩ = 1 := by simp [wErr, t1, t2, t3, t4, hlong]
  have Hb := Lib.hid hb
  have He := Lib.hid he
  clear hb he
  rcases blong_cases hlong with a1 | ⟨a1, a2⟩
  all_goals
    clear hlong
    go_enter Tryd.func14, Tryd.ntmps14
    go_wp2
    go_ret2
    exact wrote_of Hb.out He.out rfl rfl (BytesAt.nil _ none) k0
set_option maxRecDepth 100000 in
set_option maxHeartbeats 400000 in
theorem wrote4 (t1 : (kind == 1) = false) (t2 : (kind == 2) = false) (t3 : (kind == 3) = false) (t4 : (kind == 4) = true) (hx : BytesAt w A x) (hlong : ¬ (most < (x.length : Int) ∨ 65535 < x.length)) :
    Calls Tryd.prog 14 #[.agg #[.int .i64 kind, .int .i64 n, .int .i64 width, .int .i64 most, .slice A x.length c]] w (Wrote w ⟨kind, n, width, most, x⟩) := by
  have k0 := World.grownBy_alloc w (.cells #[.int .i64 kind, .int .i64 n, .int .i64 width, .int .i64 most, .slice A x.length c] 29) none
  have hb : wBytes ⟨kind, n, width, most, x⟩ = be 2 x.length ++ x := by simp [wBytes, t1, t2, t3, t4, hlong]
  have he : wErr ⟨kind, n, width, most, x⟩ = 0 := by simp [wErr, t1, t2, t3, t4, hlong]
  have Hb := Lib.hid hb
  have He := Lib.hid he
  clear hb he
  have a1 : decide (most < (x.length : Int)) = false := by simp; omega
  have a2 : decide ((65535 : Int) < (x.length : Int)) = false := by simp; omega
  have hlen : x.length ≤ 65535 := by omega
  clear hlong
  obtain ⟨i0, hi, hz0, hz1, hz2⟩ := info_parts u8_info
  have hx1 := hx.alloc (.cells #[.int .i64 kind, .int .i64 n, .int .i64 width, .int .i64 most, .slice A x.length c] 29)
  have b0 := Blk.new w 29 #[.int .i64 kind, .int .i64 n, .int .i64 width, .int .i64 most, .slice A x.length c]
  have c4 : (w.alloc (.cells #[.int .i64 kind, .int .i64 n, .int .i64 width, .int .i64 most, .slice A x.length c] 29)).cell? ⟨w.heap.size, 4, none⟩ = some (.slice A x.length c) := b0.cell 4
  go_enter Tryd.func14, Tryd.ntmps14
  go_wp2_with fail
  have hne : (some w.heap.size : Option Nat) ≠ (Value.slice (some ⟨(w.alloc (.cells #[.int .i64 kind, .int .i64 n, .int .i64 width, .int .i64 most, .slice A x.length c] 29)).drew.heap.size, 0, none⟩) 2 2).ownBlock := by
    intro e
    simp [Value.ownBlock] at e
  generalize w.alloc (.cells #[.int .i64 kind, .int .i64 n, .int .i64 width, .int .i64 most, .slice A x.length c] 29) = W1 at *
  have hx1d : BytesAt W1.drew A x := hx1
  go_region_held3 (fun w' => w'.cell? ⟨w.heap.size, 4, none⟩ = some (.slice A x.length c))
    (first | go_keep | exact k2.cell c4 (by simp) | exact k3.cell (k2.cell c4 (by simp)) hne)
    ((first
      | (go_at_call 46; refine (refNumber_any _ x.length 2 (by omega) (by omega) (by omega)).mono ?_; rintro e w2 ⟨rfl, hb2, k2⟩)
      | (refine step_append_bytes _ (by rfl) _ _ _ (by rfl) 0 5 i0 _ Tryd.underlying27 hi hz0 hz1 hz2 rfl _ 2 _ (by rfl) (own_of_blk hb2 (be_length 2 x.length) (by omega)) A c x (by rfl) (hx1d.grown k2 (by simp)) (by omega) (by omega) ?_; intro A' cap' w3 hown3 k3 hat3)))
  go_wp2
  go_ret2
  have ho : w3.ownsRow 0 5 1 (.slice A' (2 + x.length) cap') (2 + x.length) (Lib.byteCells (be 2 x.length ++ x)) := by rw [Lib.byteCells_append]; exact hown3
  exact wrote_of Hb.out He.out (by simp [be_length]) rfl (own_bytesAt ho) (grown_own (grown_trans (grown_drew k0) k2) k3 (fun g e => by
    have e2 : W1.heap.size = g := by simpa [Value.ownBlock] using e
    have := k0.size
    omega))
set_option maxHeartbeats 400000 in
theorem wrote5b (t1 : (kind == 1) = false) (t2 : (kind == 2) = false) (t3 : (kind == 3) = false) (t4 : (kind == 4) = false) (t5 : (kind == 5) = true) (hlong : most < (x.length : Int) ∨ 255 < x.length) :
    Calls Tryd.prog 14 #[.agg #[.int .i64 kind, .int .i64 n, .int .i64 width, .int .i64 most, .slice A x.length c]] w (Wrote w ⟨kind, n, width, most, x⟩) := by
  have k0 := World.grownBy_alloc w (.cells #[.int .i64 kind, .int .i64 n, .int .i64 width, .int .i64 most, .slice A x.length c] 29) none
  have hb : wBytes ⟨kind, n, width, most, x⟩ = [] := by simp [wBytes, t1, t2, t3, t4, t5, hlong]
  have he : wErr ⟨kind, n, width, most, x⟩ = 1 := by simp [wErr, t1, t2, t3, t4, t5, hlong]
  have Hb := Lib.hid hb
  have He := Lib.hid he
  clear hb he
  rcases long_cases hlong with a1 | ⟨a1, a2⟩
  all_goals
    clear hlong
    go_enter Tryd.func14, Tryd.ntmps14
    go_wp2
    go_ret2
    exact wrote_of Hb.out He.out rfl rfl (BytesAt.nil _ none) k0
set_option maxRecDepth 100000 in
set_option maxHeartbeats 400000 in
theorem wrote5 (t1 : (kind == 1) = false) (t2 : (kind == 2) = false) (t3 : (kind == 3) = false) (t4 : (kind == 4) = false) (t5 : (kind == 5) = true) (hx : BytesAt w A x) (hlong : ¬ (most < (x.length : Int) ∨ 255 < x.length)) :
    Calls Tryd.prog 14 #[.agg #[.int .i64 kind, .int .i64 n, .int .i64 width, .int .i64 most, .slice A x.length c]] w (Wrote w ⟨kind, n, width, most, x⟩) := by
  have k0 := World.grownBy_alloc w (.cells #[.int .i64 kind, .int .i64 n, .int .i64 width, .int .i64 most, .slice A x.length c] 29) none
  have hb : wBytes ⟨kind, n, width, most, x⟩ = be 1 x.length ++ x := by simp [wBytes, t1, t2, t3, t4, t5, hlong]
  have he : wErr ⟨kind, n, width, most, x⟩ = 0 := by simp [wErr, t1, t2, t3, t4, t5, hlong]
  have Hb := Lib.hid hb
  have He := Lib.hid he
  clear hb he
  have a1 : decide (most < (x.length : Int)) = false := by simp; omega
  have a2 : decide ((255 : Int) < (x.length : Int)) = false := by simp; omega
  have hlen : x.length ≤ 255 := by omega
  clear hlong
  obtain ⟨i0, hi, hz0, hz1, hz2⟩ := info_parts u8_info
  have hx1 := hx.alloc (.cells #[.int .i64 kind, .int .i64 n, .int .i64 width, .int .i64 most, .slice A x.length c] 29)
  have hown : ((w.alloc (.cells #[.int .i64 kind, .int .i64 n, .int .i64 width, .int .i64 most, .slice A x.length c] 29)).alloc (.cells #[.int .u8 (x.length : Int)] 5)).ownsRow 0 5 1 (.slice (some ⟨w.heap.size + 1, 0, none⟩) 1 1) 1 (Lib.byteCells (be 1 x.length)) := by
    have h := Blk.new (w.alloc (.cells #[.int .i64 kind, .int .i64 n, .int .i64 width, .int .i64 most, .slice A x.length c] 29)) 5 #[.int .u8 (x.length : Int)]
    have e : (w.alloc (.cells #[.int .i64 kind, .int .i64 n, .int .i64 width, .int .i64 most, .slice A x.length c] 29)).heap.size = w.heap.size + 1 := by simp
    rw [e] at h
    have h2 : #[Value.int .u8 (x.length : Int)] = (Lib.byteCells (be 1 x.length)).toArray := by rw [be_byte hlen]
    rw [h2] at h ⊢
    exact own_of_blk h (be_length 1 x.length) (by omega)
  have hlen2 : 1 + x.length ≤ 140737488355328 := by omega
  go_enter Tryd.func14, Tryd.ntmps14
  go_wp2_with (at_builtin; refine wpList_append_bytes _ rfl _ _ 27 rfl 0 5 i0 _ Tryd.underlying27 hi hz0 hz1 hz2 rfl _ 1 (Lib.byteCells (be 1 x.length)) rfl hown A c x rfl (hx1.alloc _) hlen2 (Nat.zero_le _) ?_)
  intro A' cap' w3 hown3 k3 hat3
  have ho : w3.ownsRow 0 5 1 (.slice A' (1 + x.length) cap') (1 + x.length) (Lib.byteCells (be 1 x.length ++ x)) := by rw [Lib.byteCells_append]; exact hown3
  go_wp2
  go_ret2
  exact wrote_of Hb.out He.out (by simp [be_length]) rfl (own_bytesAt ho) (grown_own (grown_trans k0 (World.grownBy_alloc _ _ _)) k3 (fun g e => by
    have e2 : w.heap.size + 1 = g := by simpa [Value.ownBlock] using e
    omega))
set_option maxHeartbeats 400000 in
theorem wrote6 (t1 : (kind == 1) = false) (t2 : (kind == 2) = false) (t3 : (kind == 3) = false) (t4 : (kind == 4) = false) (t5 : (kind == 5) = false) (t6 : (kind == 6) = true) :
    Calls Tryd.prog 14 #[.agg #[.int .i64 kind, .int .i64 n, .int .i64 width, .int .i64 most, .slice A x.length c]] w (Wrote w ⟨kind, n, width, most, x⟩) := by
  have k0 := World.grownBy_alloc w (.cells #[.int .i64 kind, .int .i64 n, .int .i64 width, .int .i64 most, .slice A x.length c] 29) none
  have hb : wBytes ⟨kind, n, width, most, x⟩ = [] := by simp [wBytes, t1, t2, t3, t4, t5]
  have he : wErr ⟨kind, n, width, most, x⟩ = 10 := by simp [wErr, t1, t2, t3, t4, t5, t6]
  have Hb := Lib.hid hb
  have He := Lib.hid he
  clear hb he
  go_enter Tryd.func14, Tryd.ntmps14
  go_wp2
  go_ret2
  exact wrote_of Hb.out He.out rfl rfl (BytesAt.nil _ none) k0
set_option maxHeartbeats 400000 in
theorem wrote7 (t1 : (kind == 1) = false) (t2 : (kind == 2) = false) (t3 : (kind == 3) = false) (t4 : (kind == 4) = false) (t5 : (kind == 5) = false) (t6 : (kind == 6) = false) :
    Calls Tryd.prog 14 #[.agg #[.int .i64 kind, .int .i64 n, .int .i64 width, .int .i64 most, .slice A x.length c]] w (Wrote w ⟨kind, n, width, most, x⟩) := by
  have k0 := World.grownBy_alloc w (.cells #[.int .i64 kind, .int .i64 n, .int .i64 width, .int .i64 most, .slice A x.length c] 29) none
  have hb : wBytes ⟨kind, n, width, most, x⟩ = [] := by simp [wBytes, t1, t2, t3, t4, t5]
  have he : wErr ⟨kind, n, width, most, x⟩ = 0 := by simp [wErr, t1, t2, t3, t4, t5, t6]
  have Hb := Lib.hid hb
  have He := Lib.hid he
  clear hb he
  go_enter Tryd.func14, Tryd.ntmps14
  go_wp2
  go_ret2
  exact wrote_of Hb.out He.out rfl rfl (BytesAt.nil _ none) k0
end

theorem written_any (w : World) (o : OpV) (A : Option Addr) (c : Nat) (hmax : o.n ≤ 9223372036854775807) (hx : BytesAt w A o.bytes) :
    Calls Tryd.prog 14 #[opVal o A c] w (Wrote w o) := by
  obtain ⟨kind, n, width, most, x⟩ := o
  unfold opVal
  simp only at hx hmax ⊢
  cases t1 : (kind == 1)
  · cases t2 : (kind == 2)
    · cases t3 : (kind == 3)
      · cases t4 : (kind == 4)
        · cases t5 : (kind == 5)
          · cases t6 : (kind == 6)
            · exact wrote7 w kind n width most x A c t1 t2 t3 t4 t5 t6
            · exact wrote6 w kind n width most x A c t1 t2 t3 t4 t5 t6
          · by_cases hlong : most < (x.length : Int) ∨ 255 < x.length
            · exact wrote5b w kind n width most x A c t1 t2 t3 t4 t5 hlong
            · exact wrote5 w kind n width most x A c t1 t2 t3 t4 t5 hx hlong
        · by_cases hlong : most < (x.length : Int) ∨ 65535 < x.length
          · exact wrote4b w kind n width most x A c t1 t2 t3 t4 hlong
          · exact wrote4 w kind n width most x A c t1 t2 t3 t4 hx hlong
      · exact wrote3 w kind n width most x A c t1 t2 t3 hx
    · exact wrote2 w kind n width most x A c t1 t2
  · cases hbad : badNum n width
    · exact wrote1 w kind n width most x A c t1 hmax hbad
    · exact wrote1b w kind n width most x A c t1 hmax hbad
end Go.Proofs.YtmmjpkijnecmcaaDoor
