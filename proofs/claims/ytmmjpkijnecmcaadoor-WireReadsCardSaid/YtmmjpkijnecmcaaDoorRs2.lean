/-
  quoratelaw01.reads: both readers answer an op the same.
-/
import Derived.Test.YtmmjpkijnecmcaaDoorRs
namespace Go.Proofs.YtmmjpkijnecmcaaDoor
open Go.RowKit

theorem enter_reads (args : Array Value) (w : World) : (callFunc 54 args).run Tryd.prog w = .ok (.enter 54 args) w := by kernel_rfl
theorem one_reads (B g s : Nat) (E : Nat → Addr) (hg : B ≤ g) (w1 : World) (e1 : Nat) (l1 : List UInt8) (n1 e2 : Nat) (l2 : List UInt8) (hp : pNum 1 e1 l1 = (n1, e2, l2)) (hr : RdIs w1 g s (evOf E e1) l1) (he : ErrVars [0, 1] w1 B E) :
    Calls Tryd.prog 54 #[.pointer (some ⟨g, 0, none⟩)] w1 fun en w' => en = .returned (.int .i64 (n1 : Int)) ∧ RdIs w' g s (evOf E e2) l2 ∧ w1.grownBy w' (some g) := by
  go_enter Tryd.func54, Tryd.ntmps54
  go_wp2_with fail
  refine (rnum_is w1 B g s E e1 l1 1 n1 e2 l2 hp hr he hg).mono ?_
  rintro en w2 ⟨rfl, hr2, k2⟩
  go_wp2_with fail
  go_ret
  exact ⟨rfl, hr2, k2⟩

section
variable (w : World) (B g s m : Nat) (E : Nat → Addr) (A : Option Addr) (c : Nat) (b : List UInt8) (e : Nat) (l : List UInt8) (kind nn width most : Int) (Ab : Option Addr) (nb cb : Nat)

set_option maxRecDepth 100000 in
set_option maxHeartbeats 1000000 in
theorem reads_num (h : RS w B g s m E A c b e l) (t1 : (kind == 1) = true) :
    Calls Tryd.prog 19 #[.pointer (some ⟨g, 0, none⟩), .pointer (some ⟨m, 0, none⟩), .agg #[.int .i64 kind, .int .i64 nn, .int .i64 width, .int .i64 most, .slice Ab nb cb]] w fun en w' => en = .returned (.bool true) ∧ RSP w w' B g s m E A c b := by
  have KA : Kept (fun _ => False) w (w.alloc (.cells #[.int .i64 kind, .int .i64 nn, .int .i64 width, .int .i64 most, .slice Ab nb cb] 29)) := (Kept.refl (fun _ => False) w).alloc _
  have hA := h.old KA
  have hbox := Blk.new w 29 #[.int .i64 kind, .int .i64 nn, .int .i64 width, .int .i64 most, .slice Ab nb cb]
  have hne : w.heap.size ≠ g ∧ w.heap.size ≠ m := by have := h.lt; omega
  have d0 : (w.alloc (.cells #[.int .i64 kind, .int .i64 nn, .int .i64 width, .int .i64 most, .slice Ab nb cb] 29)).cell? ⟨w.heap.size, 0, none⟩ = some (.int .i64 kind) := hbox.cell 0
  have d1 : (w.alloc (.cells #[.int .i64 kind, .int .i64 nn, .int .i64 width, .int .i64 most, .slice Ab nb cb] 29)).cell? ⟨w.heap.size, 1, none⟩ = some (.int .i64 nn) := hbox.cell 1
  have d2 : (w.alloc (.cells #[.int .i64 kind, .int .i64 nn, .int .i64 width, .int .i64 most, .slice Ab nb cb] 29)).cell? ⟨w.heap.size, 2, none⟩ = some (.int .i64 width) := hbox.cell 2
  have d3 : (w.alloc (.cells #[.int .i64 kind, .int .i64 nn, .int .i64 width, .int .i64 most, .slice Ab nb cb] 29)).cell? ⟨w.heap.size, 3, none⟩ = some (.int .i64 most) := hbox.cell 3
  have hB := h.bg
  have hb := h.bl
  have HA := Lib.hid hA
  have Hbox := Lib.hid hbox
  have HK := Lib.hid KA
  obtain ⟨n1, e1, l1, hq⟩ : ∃ n1 e1 l1, pNum width e l = (n1, e1, l1) := ⟨_, _, _, rfl⟩
  have HG : Hid (Gd (e1, l1)) := by have := gd_num (width := width) h.gd; rw [hq] at this; exact this
  have Hq := Lib.hid hq
  clear hq
  clear h hA hbox KA
  go_enter Tryd.func19, Tryd.ntmps19
  go_wp2_with fail
  generalize w.alloc (.cells #[.int .i64 kind, .int .i64 nn, .int .i64 width, .int .i64 most, .slice Ab nb cb] 29) = wA at *
  go_region_with (first
    | (go_at_call 24; refine (rnum_is _ B g s E e l width n1 e1 l1 Hq.out HA.out.rd.drew ((HA.out.er.sub (by decide)).kept (Kept.refl (fun _ => False) _).drew (fun _ h => h.elim)) hB).mono ?_; rintro en w5 ⟨rfl, hr5, k5⟩; have c5 : w5.cell? ⟨w.heap.size, 2, none⟩ = some (.int .i64 width) := ((Hbox.out.drew).grown k5 (by intro e; have := Option.some.inj e; have := hne; omega)).cell 2)
    | (go_at_call 49; refine (mnum_is w5 m A c b e l width n1 e1 l1 Hq.out (by omega) ((HA.out.old (Kept.refl (fun _ => False) _).drew).first k5)).mono ?_; rintro en w6 ⟨rfl, hm6, k6⟩))
  all_goals
    go_wp2_with fail
    go_ret
    exact ⟨rfl, RSP.of HK.out.drew ((HA.out.old (Kept.refl (fun _ => False) _).drew).both hr5 k5 hm6 k6 HG.out)⟩

set_option maxRecDepth 100000 in
set_option maxHeartbeats 1000000 in
theorem reads_flag (h : RS w B g s m E A c b e l) (t1 : (kind == 1) = false) (t2 : (kind == 2) = true) :
    Calls Tryd.prog 19 #[.pointer (some ⟨g, 0, none⟩), .pointer (some ⟨m, 0, none⟩), .agg #[.int .i64 kind, .int .i64 nn, .int .i64 width, .int .i64 most, .slice Ab nb cb]] w fun en w' => en = .returned (.bool true) ∧ RSP w w' B g s m E A c b := by
  have KA : Kept (fun _ => False) w (w.alloc (.cells #[.int .i64 kind, .int .i64 nn, .int .i64 width, .int .i64 most, .slice Ab nb cb] 29)) := (Kept.refl (fun _ => False) w).alloc _
  have hA := h.old KA
  have hbox := Blk.new w 29 #[.int .i64 kind, .int .i64 nn, .int .i64 width, .int .i64 most, .slice Ab nb cb]
  have hne : w.heap.size ≠ g ∧ w.heap.size ≠ m := by have := h.lt; omega
  have d0 : (w.alloc (.cells #[.int .i64 kind, .int .i64 nn, .int .i64 width, .int .i64 most, .slice Ab nb cb] 29)).cell? ⟨w.heap.size, 0, none⟩ = some (.int .i64 kind) := hbox.cell 0
  have d1 : (w.alloc (.cells #[.int .i64 kind, .int .i64 nn, .int .i64 width, .int .i64 most, .slice Ab nb cb] 29)).cell? ⟨w.heap.size, 1, none⟩ = some (.int .i64 nn) := hbox.cell 1
  have d2 : (w.alloc (.cells #[.int .i64 kind, .int .i64 nn, .int .i64 width, .int .i64 most, .slice Ab nb cb] 29)).cell? ⟨w.heap.size, 2, none⟩ = some (.int .i64 width) := hbox.cell 2
  have d3 : (w.alloc (.cells #[.int .i64 kind, .int .i64 nn, .int .i64 width, .int .i64 most, .slice Ab nb cb] 29)).cell? ⟨w.heap.size, 3, none⟩ = some (.int .i64 most) := hbox.cell 3
  have hB := h.bg
  have hb := h.bl
  have HA := Lib.hid hA
  have Hbox := Lib.hid hbox
  have HK := Lib.hid KA
  obtain ⟨n1, e1, l1, hq⟩ : ∃ n1 e1 l1, pFlag e l = (n1, e1, l1) := ⟨_, _, _, rfl⟩
  have HG : Hid (Gd (e1, l1)) := by have := gd_flag h.gd; rw [hq] at this; exact this
  have Hq := Lib.hid hq
  clear hq
  clear h hA hbox KA
  go_enter Tryd.func19, Tryd.ntmps19
  go_wp2_with fail
  generalize w.alloc (.cells #[.int .i64 kind, .int .i64 nn, .int .i64 width, .int .i64 most, .slice Ab nb cb] 29) = wA at *
  refine (rflag_is wA B g s E e l n1 e1 l1 Hq.out HA.out.rd (HA.out.er.sub (by decide)) hB).mono ?_
  rintro en w5 ⟨rfl, hr5, k5⟩
  go_wp2_with fail
  refine (mflag_is w5 m A c b e l n1 e1 l1 Hq.out (by omega) (HA.out.first k5)).mono ?_
  rintro en w6 ⟨rfl, hm6, k6⟩
  go_wp2_with fail
  go_ret
  exact ⟨rfl, RSP.of HK.out (HA.out.both hr5 k5 hm6 k6 HG.out)⟩

set_option maxRecDepth 100000 in
set_option maxHeartbeats 1000000 in
theorem reads_fail (h : RS w B g s m E A c b e l) (t1 : (kind == 1) = false) (t2 : (kind == 2) = false) (t3 : (kind == 3) = false) (t4 : (kind == 4) = false) (t5 : (kind == 5) = false) (t6 : (kind == 6) = true) :
    Calls Tryd.prog 19 #[.pointer (some ⟨g, 0, none⟩), .pointer (some ⟨m, 0, none⟩), .agg #[.int .i64 kind, .int .i64 nn, .int .i64 width, .int .i64 most, .slice Ab nb cb]] w fun en w' => en = .returned (.bool true) ∧ RSP w w' B g s m E A c b := by
  have KA : Kept (fun _ => False) w (w.alloc (.cells #[.int .i64 kind, .int .i64 nn, .int .i64 width, .int .i64 most, .slice Ab nb cb] 29)) := (Kept.refl (fun _ => False) w).alloc _
  have hA := h.old KA
  have hbox := Blk.new w 29 #[.int .i64 kind, .int .i64 nn, .int .i64 width, .int .i64 most, .slice Ab nb cb]
  have hne : w.heap.size ≠ g ∧ w.heap.size ≠ m := by have := h.lt; omega
  have d0 : (w.alloc (.cells #[.int .i64 kind, .int .i64 nn, .int .i64 width, .int .i64 most, .slice Ab nb cb] 29)).cell? ⟨w.heap.size, 0, none⟩ = some (.int .i64 kind) := hbox.cell 0
  have d1 : (w.alloc (.cells #[.int .i64 kind, .int .i64 nn, .int .i64 width, .int .i64 most, .slice Ab nb cb] 29)).cell? ⟨w.heap.size, 1, none⟩ = some (.int .i64 nn) := hbox.cell 1
  have d2 : (w.alloc (.cells #[.int .i64 kind, .int .i64 nn, .int .i64 width, .int .i64 most, .slice Ab nb cb] 29)).cell? ⟨w.heap.size, 2, none⟩ = some (.int .i64 width) := hbox.cell 2
  have d3 : (w.alloc (.cells #[.int .i64 kind, .int .i64 nn, .int .i64 width, .int .i64 most, .slice Ab nb cb] 29)).cell? ⟨w.heap.size, 3, none⟩ = some (.int .i64 most) := hbox.cell 3
  have hB := h.bg
  have hb := h.bl
  have HA := Lib.hid hA
  have Hbox := Lib.hid hbox
  have HK := Lib.hid KA
  obtain ⟨e1, hq⟩ : ∃ e1, (if e = 0 then 10 else e) = e1 := ⟨_, rfl⟩
  have HG : Hid (Gd (e1, l) ∧ e1 ≠ 0) := by
    obtain ⟨h1, h2⟩ := h.gd
    simp only at h1 h2
    refine ⟨⟨?_, h2⟩, ?_⟩ <;> ((try simp only); rw [← hq]; split <;> omega)
  have v9 : (w.alloc (.cells #[.int .i64 kind, .int .i64 nn, .int .i64 width, .int .i64 most, .slice Ab nb cb] 29)).cell? ⟨0, 0, none⟩ = some (errV (E 9)) := (hA.er.var 9 (by simp)).1
  have Hq := Lib.hid hq
  clear hq
  clear h hA hbox KA
  go_enter Tryd.func19, Tryd.ntmps19
  go_wp2_with fail
  generalize w.alloc (.cells #[.int .i64 kind, .int .i64 nn, .int .i64 width, .int .i64 most, .slice Ab nb cb] 29) = wA at *
  go_region_with (go_at_call 32; refine (rfail_all _ g s E e l 9 e1 Hq.out HA.out.rd.drew).mono ?_; rintro en w5 ⟨rfl, hr5, k5⟩)
  all_goals
    go_wp2_with fail
    obtain ⟨k, hm5, hd5⟩ := (HA.out.old (Kept.refl (fun _ => False) wA).drew).first k5
    refine (mfail w5 m A c b k e 10 e1 Hq.out hm5).mono ?_
    rintro en w6 ⟨rfl, hm6, k6⟩
    go_wp2_with fail
    go_ret
    exact ⟨rfl, RSP.of HK.out.drew ((HA.out.old (Kept.refl (fun _ => False) _).drew).both hr5 k5 ⟨k, hm6, fun h => absurd h HG.out.2⟩ k6 HG.out.1)⟩

set_option maxRecDepth 100000 in
set_option maxHeartbeats 1000000 in
theorem reads_none (h : RS w B g s m E A c b e l) (t1 : (kind == 1) = false) (t2 : (kind == 2) = false) (t3 : (kind == 3) = false) (t4 : (kind == 4) = false) (t5 : (kind == 5) = false) (t6 : (kind == 6) = false) :
    Calls Tryd.prog 19 #[.pointer (some ⟨g, 0, none⟩), .pointer (some ⟨m, 0, none⟩), .agg #[.int .i64 kind, .int .i64 nn, .int .i64 width, .int .i64 most, .slice Ab nb cb]] w fun en w' => en = .returned (.bool true) ∧ RSP w w' B g s m E A c b := by
  have KA : Kept (fun _ => False) w (w.alloc (.cells #[.int .i64 kind, .int .i64 nn, .int .i64 width, .int .i64 most, .slice Ab nb cb] 29)) := (Kept.refl (fun _ => False) w).alloc _
  have hA := h.old KA
  have hbox := Blk.new w 29 #[.int .i64 kind, .int .i64 nn, .int .i64 width, .int .i64 most, .slice Ab nb cb]
  have hne : w.heap.size ≠ g ∧ w.heap.size ≠ m := by have := h.lt; omega
  have d0 : (w.alloc (.cells #[.int .i64 kind, .int .i64 nn, .int .i64 width, .int .i64 most, .slice Ab nb cb] 29)).cell? ⟨w.heap.size, 0, none⟩ = some (.int .i64 kind) := hbox.cell 0
  have d1 : (w.alloc (.cells #[.int .i64 kind, .int .i64 nn, .int .i64 width, .int .i64 most, .slice Ab nb cb] 29)).cell? ⟨w.heap.size, 1, none⟩ = some (.int .i64 nn) := hbox.cell 1
  have d2 : (w.alloc (.cells #[.int .i64 kind, .int .i64 nn, .int .i64 width, .int .i64 most, .slice Ab nb cb] 29)).cell? ⟨w.heap.size, 2, none⟩ = some (.int .i64 width) := hbox.cell 2
  have d3 : (w.alloc (.cells #[.int .i64 kind, .int .i64 nn, .int .i64 width, .int .i64 most, .slice Ab nb cb] 29)).cell? ⟨w.heap.size, 3, none⟩ = some (.int .i64 most) := hbox.cell 3
  have hB := h.bg
  have hb := h.bl
  have HA := Lib.hid hA
  have Hbox := Lib.hid hbox
  have HK := Lib.hid KA
  clear h hA hbox KA
  go_enter Tryd.func19, Tryd.ntmps19
  go_wp2_with fail
  go_ret
  exact ⟨rfl, e, l, HA.out, HK.out.mono (fun _ _ h => h.elim)⟩
end
end Go.Proofs.YtmmjpkijnecmcaaDoor
