/-
  WireNests: Put of bytes by its inner closure.
-/
import Derived.Test.YtmmjpkijnecmcaaDoorPut2
namespace Go.Proofs.YtmmjpkijnecmcaaDoor
open Go.RowKit

theorem nin_ok (w : World) (F : Nat → Prop) (g : Nat) (l : List UInt8) (b : UInt8) (hw : WrIs w F g .nilIface l) (hl : l.length ≤ 70368744177664) :
    Calls Tryd.prog 36 #[.pointer (some ⟨g, 0, none⟩), .int .u8 (b.toNat : Nat)] w fun e w' => e = .returned (.tuple #[]) ∧ WrIs w' (upTo F w.heap.size w'.heap.size) g .nilIface (l ++ [b]) ∧ Kept F w w' := by
  have hb := b.toNat_lt
  go_enter Tryd.func36, Tryd.ntmps36
  go_wp2_with fail
  refine (number_ok w F g l b.toNat 1 hw (by omega) (by omega) (by omega) hl).mono ?_
  rintro e w1 ⟨rfl, hw1, k1⟩
  rw [be_one] at hw1
  go_wp2_with fail
  go_end0
  exact ⟨rfl, hw1, k1⟩
set_option maxHeartbeats 400000 in
theorem nloop_ok (w : World) (F : Nat → Prop) (g : Nat) (l : List UInt8) (lb ob wb : Nat) (A : Option Addr) (m c : Nat) (x : List UInt8) (hm : x.length = m) (hw : WrIs w F g .nilIface l) (hl : l.length + m ≤ 70368744177664)
    (h1 : w.cell? ⟨lb, 0, none⟩ = some (.slice A m c)) (h2 : w.cell? ⟨ob, 0, none⟩ = some (.func (.func 36) #[] #[])) (h3 : w.cell? ⟨wb, 0, none⟩ = some (.pointer (some ⟨g, 0, none⟩)))
    (n2 : ¬ F ob) (n3 : ¬ F wb) (hx : BytesAt w A x) (hA : ∀ ad, A = some ad → x ≠ [] → ¬ F ad.block) :
    Calls Tryd.prog 64 #[.pointer (some ⟨lb, 0, none⟩), .pointer (some ⟨ob, 0, none⟩), .pointer (some ⟨wb, 0, none⟩)] w fun e w' => e = .returned (.tuple #[]) ∧ (WrIs w' (upTo F w.heap.size w'.heap.size) g .nilIface (l ++ x) ∧ Kept F w w') := by
  have Hm := Lib.hid hm
  clear hm
  go_enter Tryd.func64, Tryd.ntmps64
  go_wp2_with fail
  go_loopw [7] (fun i wr => ∃ k : Nat, k ≤ m ∧ i = .int .i64 (k : Int) ∧ WrIs wr (upTo F w.heap.size wr.heap.size) g .nilIface (l ++ x.take k) ∧ Kept F w wr) (fun i _ => m - (intOf i).toNat)
  case atStart => exact ⟨0, Nat.zero_le _, rfl, by simpa using hw.mono fun k _ h => .inl h, Kept.refl _ _⟩
  case round =>
    obtain ⟨k, hk, rfl, hwr, hK⟩ := hrel
    by_cases hlt : k < m
    · have hb : decide ((k : Int) < (m : Int)) = true := by simp; omega
      have hkx : k < x.length := by have := Hm.out; omega
      obtain ⟨xb, xo, rfl, hc⟩ := (hx.kept' hK hA).get (by intro e; rw [e] at hkx; simp at hkx)
      have hcell := hc k hkx
      clear hc
      have c2 := hK.cell h2 n2
      have c3 := hK.cell h3 n3
      have htk : x.take (k + 1) = x.take k ++ [x[k]] := List.take_succ_eq_append_getElem hkx
      have Htk := Lib.hid htk
      clear htk
      generalize x[k] = b at *
      have hlen : (l ++ x.take k).length ≤ 70368744177664 := by simp; omega
      have Hw := Lib.hid hwr
      clear hwr
      go_wp2_with fail
      refine (nin_ok wr _ g _ b Hw.out hlen).mono ?_
      rintro e w1 ⟨rfl, hw1, k1⟩
      have s0 := hK.size
      have s1 := k1.size
      go_wp2_with fail
      go_roundw
      case rel => exact ⟨k + 1, by omega, by go_num, by rw [Htk.out, ← List.append_assoc]; exact hw1.mono fun j _ h => upTo_le s0 s1 j h, hK.trans k1⟩
      case measure => simp [intOf]; omega
    · have hb : decide ((k : Int) < (m : Int)) = false := by simp; omega
      have hxk : x.take k = x := List.take_of_length_le (by have := Hm.out; omega)
      rw [hxk] at hwr
      clear hxk
      go_wp2_with fail
      go_end0
      exact ⟨rfl, hwr, hK⟩

/-- The three variables that Put's closure captures. -/
def nboxed (w : World) (g m c : Nat) (A : Option Addr) : World :=
  ((w.alloc (.cells #[.pointer (some ⟨g, 0, none⟩)] 25)).alloc (.cells #[.slice A m c] 27)).alloc (.cells #[.func (.func 36) #[] #[]] 70)
section
variable (w : World) (g m c : Nat) (A : Option Addr)
theorem nboxed_eq : ((w.alloc (.cells #[.pointer (some ⟨g, 0, none⟩)] 25)).alloc (.cells #[.slice A m c] 27)).alloc (.cells #[.func (.func 36) #[] #[]] 70) = nboxed w g m c A := rfl
theorem nboxed_size : (nboxed w g m c A).heap.size = w.heap.size + 3 := by simp [nboxed]
theorem nboxed_kept : Kept (fun _ => False) w (nboxed w g m c A) := (((Kept.refl _ w).alloc _).alloc _).alloc _
theorem nboxed_w : (nboxed w g m c A).cell? ⟨w.heap.size, 0, none⟩ = some (.pointer (some ⟨g, 0, none⟩)) := (((Blk.new w 25 #[.pointer (some ⟨g, 0, none⟩)]).alloc _).alloc _).cell 0
theorem nboxed_l : (nboxed w g m c A).cell? ⟨w.heap.size + 1, 0, none⟩ = some (.slice A m c) := by
  have h := ((Blk.new (w.alloc (.cells #[.pointer (some ⟨g, 0, none⟩)] 25)) 27 #[.slice A m c]).alloc (.cells #[.func (.func 36) #[] #[]] 70)).cell 0
  simpa [nboxed] using h
theorem nboxed_f : (nboxed w g m c A).cell? ⟨w.heap.size + 1 + 1, 0, none⟩ = some (.func (.func 36) #[] #[]) := by
  have h := (Blk.new ((w.alloc (.cells #[.pointer (some ⟨g, 0, none⟩)] 25)).alloc (.cells #[.slice A m c] 27)) 70 #[.func (.func 36) #[] #[]]).cell 0
  simpa [nboxed] using h
end

set_option maxHeartbeats 400000 in
theorem nput_ok (w : World) (F : Nat → Prop) (g : Nat) (l : List UInt8) (A : Option Addr) (m c : Nat) (most : Int) (x : List UInt8) (hm : x.length = m) (hw : WrIs w F g .nilIface l) (hl : l.length ≤ 70368744176664)
    (hx : BytesAt w A x) (hA : ∀ ad, A = some ad → x ≠ [] → ¬ F ad.block) (h1 : (m : Int) ≤ most) (h2 : m ≤ 255) :
    Calls Tryd.prog 35 #[.pointer (some ⟨g, 0, none⟩), .slice A m c, .int .i64 most, .func (.func 36) #[] #[]] w fun e w' => e = .returned (.tuple #[]) ∧ WrIs w' (upTo F w.heap.size w'.heap.size) g .nilIface (l ++ (be 1 m ++ x)) ∧ Kept F w w' := by
  have a1 : decide (most < (m : Int)) = false := by simp; omega
  have a2 : decide ((255 : Int) < (m : Int)) = false := by simp; omega
  have hmf : ∀ (fn : Fn) (first cap : Array Value) (w : World), (Instr.makeFunc fn first cap).run Tryd.prog w = .ok (.func fn first cap) w := fun _ _ _ _ => rfl
  have Hm := Lib.hid hm
  clear hm
  have hF := hw.mono (G := fun k => F k ∧ k < w.heap.size) (fun k h h' => ⟨h', h⟩)
  have k1 := nboxed_kept w g m c A
  have z1 := nboxed_size w g m c A
  have d1 := nboxed_w w g m c A
  have d2 := nboxed_l w g m c A
  have d3 := nboxed_f w g m c A
  have hw1 := hF.kept k1 (fun _ _ h => h)
  have hx1 := hx.kept' k1 (fun _ _ _ h => h)
  go_enter Tryd.func35, Tryd.ntmps35
  go_wp2_with fail
  rw [nboxed_eq]
  refine (number_ok (nboxed w g m c A) _ g l m 1 hw1 (by omega) (by omega) (by omega) (by omega)).mono ?_
  rintro e w2 ⟨rfl, hw2, k2⟩
  have e1 := k2.cell d1 (fun h => absurd h.2 (by simp; try omega))
  have e2 := k2.cell d2 (fun h => absurd h.2 (by simp; try omega))
  have e3 := k2.cell d3 (fun h => absurd h.2 (by simp; try omega))
  have z2 := k2.size
  have hlt := hx.lt
  generalize nboxed w g m c A = W1 at *
  go_wp2_with fail
  have n1 : ∀ j, w.heap.size ≤ j → j < w.heap.size + 3 → ¬ upTo (fun k => F k ∧ k < w.heap.size) W1.heap.size w2.heap.size j := by
    rintro j h1 h2 (⟨_, h⟩ | ⟨h, _⟩)
    · omega
    · omega
  have nA : ∀ ad, A = some ad → x ≠ [] → ¬ upTo (fun k => F k ∧ k < w.heap.size) W1.heap.size w2.heap.size ad.block := by
    rintro ad e hne (⟨h, _⟩ | ⟨h, _⟩)
    · exact hA ad e hne h
    · have := hlt ad e hne; omega
  have hx2 := hx1.kept' k2 (fun ad e hne h => hA ad e hne h.1)
  have f1 : (w2.alloc (.cells #[.pointer (some ⟨g, 0, none⟩)] 90)).cell? ⟨w.heap.size, 0, none⟩ = some (.pointer (some ⟨g, 0, none⟩)) := ((Kept.refl (fun _ => False) w2).alloc _).cell e1 (fun h => h)
  have f2 : (w2.alloc (.cells #[.pointer (some ⟨g, 0, none⟩)] 90)).cell? ⟨w.heap.size + 1, 0, none⟩ = some (.slice A m c) := ((Kept.refl (fun _ => False) w2).alloc _).cell e2 (fun h => h)
  have f3 : (w2.alloc (.cells #[.pointer (some ⟨g, 0, none⟩)] 90)).cell? ⟨w.heap.size + 1 + 1, 0, none⟩ = some (.func (.func 36) #[] #[]) := ((Kept.refl (fun _ => False) w2).alloc _).cell e3 (fun h => h)
  have hlen : (l ++ be 1 m).length + m ≤ 70368744177664 := by simp [be_length]; omega
  refine (attempt_ok ⟨g, 0, none⟩ 64 _ w2 _ enter_put (nloop_ok _ _ g _ _ _ _ A m c x Hm.out (hw2.alloc _) hlen f2 f3 f1 (n1 _ (by omega) (by omega)) (n1 _ (by omega) (by omega)) (hx2.alloc _) nA)).mono ?_
  rintro e w4 ⟨rfl, hw4, k4⟩
  go_wp2_with fail
  go_end0
  have z4 := k4.size
  simp at z4
  refine ⟨rfl, ?_, ?_⟩
  · rw [← List.append_assoc]
    refine hw4.mono fun k _ h => ?_
    rcases h with (⟨h, _⟩ | ⟨h, h'⟩) | ⟨h, h'⟩
    · exact .inl h
    · exact .inr ⟨by omega, by omega⟩
    · exact .inr ⟨by simp at h; omega, h'⟩
  · refine (((k1.mono (G := F) fun _ _ h => h.elim).follow k2 (fun k _ h => h.1)).alloc (.cells #[.pointer (some ⟨g, 0, none⟩)] 90)).follow k4 ?_
    rintro k hk (⟨h, _⟩ | ⟨h, h'⟩)
    · exact h
    · omega
theorem nlist_ok (w : World) (F : Nat → Prop) (g : Nat) (l : List UInt8) (A : Option Addr) (m c : Nat) (x : List UInt8) (hm : x.length = m) (hw : WrIs w F g .nilIface l) (hl : l.length ≤ 70368744176664)
    (hx : BytesAt w A x) (hA : ∀ ad, A = some ad → x ≠ [] → ¬ F ad.block) (h2 : m ≤ 255) :
    Calls Tryd.prog 34 #[.pointer (some ⟨g, 0, none⟩), .slice A m c] w fun e w' => e = .returned (.tuple #[]) ∧ WrIs w' (upTo F w.heap.size w'.heap.size) g .nilIface (l ++ (be 1 m ++ x)) ∧ Kept F w w' := by
  go_enter Tryd.func34, Tryd.ntmps34
  go_wp2_with fail
  refine (nput_ok w F g l A m c 255 x hm hw hl hx hA (by omega) h2).mono ?_
  rintro e w1 ⟨rfl, hw1, k1⟩
  go_wp2_with fail
  go_end0
  exact ⟨rfl, hw1, k1⟩
end Go.Proofs.YtmmjpkijnecmcaaDoor
