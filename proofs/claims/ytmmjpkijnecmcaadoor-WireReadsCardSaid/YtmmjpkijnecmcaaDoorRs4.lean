/-
  quoratelaw01.reads: Bytes.
-/
import Derived.Test.YtmmjpkijnecmcaaDoorRs
namespace Go.Proofs.YtmmjpkijnecmcaaDoor
open Go.RowKit

section
variable (w : World) (B g s m : Nat) (E : Nat → Addr) (A : Option Addr) (c : Nat) (b : List UInt8) (e : Nat) (l : List UInt8) (kind nn width most : Int) (Ab : Option Addr) (nb cb : Nat)

set_option maxRecDepth 100000 in
set_option maxHeartbeats 1000000 in
theorem reads_bytes (h : RS w B g s m E A c b e l) (t1 : (kind == 1) = false) (t2 : (kind == 2) = false) (t3 : (kind == 3) = false) (t4 : (kind == 4) = true) :
    Calls Tryd.prog 19 #[.pointer (some ⟨g, 0, none⟩), .pointer (some ⟨m, 0, none⟩), .agg #[.int .i64 kind, .int .i64 nn, .int .i64 width, .int .i64 most, .slice Ab nb cb]] w fun en w' => en = .returned (.bool true) ∧ RSP w w' B g s m E A c b := by
  have KA : Kept (fun _ => False) w (w.alloc (.cells #[.int .i64 kind, .int .i64 nn, .int .i64 width, .int .i64 most, .slice Ab nb cb] 29)) := (Kept.refl (fun _ => False) w).alloc _
  have hA := h.old KA
  have hbox := Blk.new w 29 #[.int .i64 kind, .int .i64 nn, .int .i64 width, .int .i64 most, .slice Ab nb cb]
  have hne : w.heap.size ≠ g ∧ w.heap.size ≠ m := by have := h.lt; omega
  have d0 : (w.alloc (.cells #[.int .i64 kind, .int .i64 nn, .int .i64 width, .int .i64 most, .slice Ab nb cb] 29)).cell? ⟨w.heap.size, 0, none⟩ = some (.int .i64 kind) := hbox.cell 0
  have d1 : (w.alloc (.cells #[.int .i64 kind, .int .i64 nn, .int .i64 width, .int .i64 most, .slice Ab nb cb] 29)).cell? ⟨w.heap.size, 1, none⟩ = some (.int .i64 nn) := hbox.cell 1
  have d2 : (w.alloc (.cells #[.int .i64 kind, .int .i64 nn, .int .i64 width, .int .i64 most, .slice Ab nb cb] 29)).cell? ⟨w.heap.size, 2, none⟩ = some (.int .i64 width) := hbox.cell 2
  have d3 : (w.alloc (.cells #[.int .i64 kind, .int .i64 nn, .int .i64 width, .int .i64 most, .slice Ab nb cb] 29)).cell? ⟨w.heap.size, 3, none⟩ = some (.int .i64 most) := hbox.cell 3
  have hB := h.bg
  have hb := h.bl
  have HA := Lib.hid hA
  have Hbox := Lib.hid hbox
  have HK := Lib.hid KA
  obtain ⟨x, e1, l1, hq⟩ : ∃ x e1 l1, pBytes most e l = (x, e1, l1) := ⟨_, _, _, rfl⟩
  have HG : Hid (Gd (e1, l1)) := by have := gd_bytes (most := most) h.gd; rw [hq] at this; exact this
  have hl : l.length ≤ 140737488355328 := by have := h.gd.2; simp only at this; omega
  have Hq := Lib.hid hq
  clear hq
  clear h hA hbox KA
  go_enter Tryd.func19, Tryd.ntmps19
  go_wp2_with fail
  generalize w.alloc (.cells #[.int .i64 kind, .int .i64 nn, .int .i64 width, .int .i64 most, .slice Ab nb cb] 29) = wA at *
  go_region_with (first
    | (go_at_call 27; refine (rbytes_is _ B g s E e l most x e1 l1 Hq.out HA.out.rd.drew ((HA.out.er.sub (by decide)).kept (Kept.refl (fun _ => False) _).drew (fun _ h => h.elim)) hB hl).mono ?_; rintro en w5 ⟨A5, c5', rfl, hx5, hlow5, hr5, k5⟩; have c5 : w5.cell? ⟨w.heap.size, 3, none⟩ = some (.int .i64 most) := ((Hbox.out.drew).grown k5 (by intro e; have := Option.some.inj e; have := hne; omega)).cell 3; have s1 := toString_any hx5 (n := x.length) (c := c5') rfl)
    | (go_at_call 52; refine (mbytes_is w5 m A c b e l most x e1 l1 Hq.out (by omega) ((HA.out.old (Kept.refl (fun _ => False) _).drew).first k5)).mono ?_; rintro en w6 ⟨A6, c6', rfl, hx6, hm6, k6⟩; have s2 := toString_any hx6 (n := x.length) (c := c6') rfl; have s3 := toString_any (hx5.kept' k6 (fun ad e _ h => by have h1 := hlow5 ad e; have h2 := HA.out.lt; have h3 : ad.block = m := h; have h4 : wA.drew.heap.size = wA.heap.size := rfl; omega)) (n := x.length) (c := c5') rfl))
  all_goals
    go_wp2_with fail
    go_ret
    exact ⟨rfl, RSP.of HK.out.drew ((HA.out.old (Kept.refl (fun _ => False) _).drew).both hr5 k5 hm6 k6 HG.out)⟩
end
end Go.Proofs.YtmmjpkijnecmcaaDoor
