/-
  WireNests: Put of lists of bytes.
-/
import Derived.Test.YtmmjpkijnecmcaaDoorNp
namespace Go.Proofs.YtmmjpkijnecmcaaDoor
open Go.RowKit

/-- The bytes of lists. -/
def wantsL (xs : List (List UInt8)) : List UInt8 := xs.flatMap fun x => be 1 x.length ++ x
theorem wantsL_app (xs ys : List (List UInt8)) : wantsL (xs ++ ys) = wantsL xs ++ wantsL ys := by simp [wantsL]
theorem wantsL_cons (x : List UInt8) (ys : List (List UInt8)) : wantsL (x :: ys) = be 1 x.length ++ (x ++ wantsL ys) := by simp [wantsL]
theorem wantsL_len : ∀ (xs : List (List UInt8)), (∀ y ∈ xs, y.length ≤ 255) → (wantsL xs).length ≤ 256 * xs.length
  | [], _ => by simp [wantsL]
  | x :: xs, h => by
    have h1 := wantsL_len xs (fun y hy => h y (List.mem_cons_of_mem _ hy))
    have h2 := h x (by simp)
    rw [wantsL_cons, List.length_append, List.length_append, be_length, List.length_cons]
    omega
/-- Lists of bytes, below block N. -/
def LA (w : World) (N : Nat) (A : Option Addr) (xs : List (List UInt8)) : Prop :=
  xs ≠ [] → ∃ b off, A = some ⟨b, off, none⟩ ∧ b < N ∧ ∀ j (_ : j < xs.length), ∃ B c, w.cell? ⟨b, off + j, none⟩ = some (.slice B xs[j].length c) ∧ BytesAt w B xs[j] ∧ ∀ ad, B = some ad → xs[j] ≠ [] → ad.block < N
theorem LA.kept {w w' : World} {F : Nat → Prop} {N : Nat} {A : Option Addr} {xs : List (List UInt8)} (h : LA w N A xs) (hk : Kept F w w') (hF : ∀ k, F k → N ≤ k) : LA w' N A xs := fun hne => by
  obtain ⟨b, off, e, hb, hc⟩ := h hne
  refine ⟨b, off, e, hb, fun j hj => ?_⟩
  obtain ⟨B, c, h1, h2, h3⟩ := hc j hj
  exact ⟨B, c, hk.cell h1 (fun h => by have := hF _ h; simp only at this; omega), h2.kept' hk (fun ad e hne h => by have := hF _ h; have := h3 ad e hne; omega), h3⟩
theorem enter_putl (args : Array Value) (w : World) : (callFunc 63 args).run Tryd.prog w = .ok (.enter 63 args) w := by kernel_rfl

set_option maxHeartbeats 400000 in
theorem lloop_ok (w : World) (F : Nat → Prop) (g : Nat) (l : List UInt8) (lb ob wb : Nat) (A : Option Addr) (m c : Nat) (x : List (List UInt8)) (hm : x.length = m) (N : Nat) (hFN : ∀ k, F k → N ≤ k) (hNw : N ≤ w.heap.size) (hsm : ∀ y ∈ x, y.length ≤ 255) (hm255 : m ≤ 255) (hw : WrIs w F g .nilIface l) (hl : l.length ≤ 1000)
    (h1 : w.cell? ⟨lb, 0, none⟩ = some (.slice A m c)) (h2 : w.cell? ⟨ob, 0, none⟩ = some (.func (.func 34) #[] #[])) (h3 : w.cell? ⟨wb, 0, none⟩ = some (.pointer (some ⟨g, 0, none⟩)))
    (n2 : ¬ F ob) (n3 : ¬ F wb) (hx : LA w N A x) :
    Calls Tryd.prog 63 #[.pointer (some ⟨lb, 0, none⟩), .pointer (some ⟨ob, 0, none⟩), .pointer (some ⟨wb, 0, none⟩)] w fun e w' => e = .returned (.tuple #[]) ∧ (WrIs w' (upTo F w.heap.size w'.heap.size) g .nilIface (l ++ wantsL x) ∧ Kept F w w') := by
  have Hm := Lib.hid hm
  clear hm
  go_enter Tryd.func63, Tryd.ntmps63
  go_wp2_with fail
  go_loopw [7] (fun i wr => ∃ k : Nat, k ≤ m ∧ i = .int .i64 (k : Int) ∧ WrIs wr (upTo F w.heap.size wr.heap.size) g .nilIface (l ++ wantsL (x.take k)) ∧ Kept F w wr) (fun i _ => m - (intOf i).toNat)
  case atStart => exact ⟨0, Nat.zero_le _, rfl, by simpa [wantsL] using hw.mono fun k _ h => .inl h, Kept.refl _ _⟩
  case round =>
    obtain ⟨k, hk, rfl, hwr, hK⟩ := hrel
    by_cases hlt : k < m
    · have hb : decide ((k : Int) < (m : Int)) = true := by simp; omega
      have hkx : k < x.length := by have := Hm.out; omega
      obtain ⟨xb, xo, rfl, hxN, hc⟩ := (hx.kept hK hFN) (by intro e; rw [e] at hkx; simp at hkx)
      obtain ⟨B, cB, hcell, hbB, hBN⟩ := hc k hkx
      clear hc
      have c2 := hK.cell h2 n2
      have c3 := hK.cell h3 n3
      have htk : wantsL (x.take (k + 1)) = wantsL (x.take k) ++ (be 1 (x[k]).length ++ x[k]) := by rw [List.take_succ_eq_append_getElem hkx, wantsL_app]; simp [wantsL]
      have Htk := Lib.hid htk
      have hyl : (x[k]).length ≤ 255 := hsm _ (List.getElem_mem hkx)
      have hlen : (l ++ wantsL (x.take k)).length ≤ 70368744176664 := by
        have := wantsL_len (x.take k) (fun y hy => hsm y (List.mem_of_mem_take hy))
        have h2 : (x.take k).length ≤ 255 := by simp; omega
        rw [List.length_append]; omega
      clear htk
      generalize x[k] = y at *
      have Hw := Lib.hid hwr
      have HB := Lib.hid (And.intro hbB hBN)
      clear hwr hbB hBN
      go_wp2_with fail
      refine (nlist_ok wr _ g _ B _ cB y rfl Hw.out hlen HB.out.1 (fun ad e hne h => by
        have h1 := HB.out.2 ad e hne
        rcases h with h | ⟨h, _⟩
        · have := hFN _ h; omega
        · omega) hyl).mono ?_
      rintro e w1 ⟨rfl, hw1, k1⟩
      have s0 := hK.size
      have s1 := k1.size
      go_wp2_with fail
      go_roundw
      case rel => exact ⟨k + 1, by omega, by go_num, by rw [Htk.out, ← List.append_assoc]; exact hw1.mono fun j _ h => upTo_le s0 s1 j h, hK.trans k1⟩
      case measure => simp [intOf]; omega
    · have hb : decide ((k : Int) < (m : Int)) = false := by simp; omega
      have hxk : x.take k = x := List.take_of_length_le (by have := Hm.out; omega)
      rw [hxk] at hwr
      clear hxk
      go_wp2_with fail
      go_end0
      exact ⟨rfl, hwr, hK⟩

/-- The three variables that Put's closure captures. -/
def lboxed (w : World) (g m c : Nat) (A : Option Addr) : World :=
  ((w.alloc (.cells #[.pointer (some ⟨g, 0, none⟩)] 25)).alloc (.cells #[.slice A m c] 67)).alloc (.cells #[.func (.func 34) #[] #[]] 71)
section
variable (w : World) (g m c : Nat) (A : Option Addr)
theorem lboxed_eq : ((w.alloc (.cells #[.pointer (some ⟨g, 0, none⟩)] 25)).alloc (.cells #[.slice A m c] 67)).alloc (.cells #[.func (.func 34) #[] #[]] 71) = lboxed w g m c A := rfl
theorem lboxed_size : (lboxed w g m c A).heap.size = w.heap.size + 3 := by simp [lboxed]
theorem lboxed_kept : Kept (fun _ => False) w (lboxed w g m c A) := (((Kept.refl _ w).alloc _).alloc _).alloc _
theorem lboxed_w : (lboxed w g m c A).cell? ⟨w.heap.size, 0, none⟩ = some (.pointer (some ⟨g, 0, none⟩)) := (((Blk.new w 25 #[.pointer (some ⟨g, 0, none⟩)]).alloc _).alloc _).cell 0
theorem lboxed_l : (lboxed w g m c A).cell? ⟨w.heap.size + 1, 0, none⟩ = some (.slice A m c) := by
  have h := ((Blk.new (w.alloc (.cells #[.pointer (some ⟨g, 0, none⟩)] 25)) 67 #[.slice A m c]).alloc (.cells #[.func (.func 34) #[] #[]] 71)).cell 0
  simpa [lboxed] using h
theorem lboxed_f : (lboxed w g m c A).cell? ⟨w.heap.size + 1 + 1, 0, none⟩ = some (.func (.func 34) #[] #[]) := by
  have h := (Blk.new ((w.alloc (.cells #[.pointer (some ⟨g, 0, none⟩)] 25)).alloc (.cells #[.slice A m c] 67)) 71 #[.func (.func 34) #[] #[]]).cell 0
  simpa [lboxed] using h
end

set_option maxHeartbeats 400000 in
theorem lput_ok (w : World) (F : Nat → Prop) (g : Nat) (l : List UInt8) (A : Option Addr) (m c : Nat) (most : Int) (x : List (List UInt8)) (hm : x.length = m) (N : Nat) (hFN : ∀ k, F k → N ≤ k) (hNw : N ≤ w.heap.size) (hsm : ∀ y ∈ x, y.length ≤ 255) (hw : WrIs w F g .nilIface l) (hl : l.length ≤ 10)
    (hx : LA w N A x) (h1 : (m : Int) ≤ most) (h2 : m ≤ 255) :
    Calls Tryd.prog 33 #[.pointer (some ⟨g, 0, none⟩), .slice A m c, .int .i64 most, .func (.func 34) #[] #[]] w fun e w' => e = .returned (.tuple #[]) ∧ WrIs w' (upTo F w.heap.size w'.heap.size) g .nilIface (l ++ (be 1 m ++ wantsL x)) ∧ Kept F w w' := by
  have a1 : decide (most < (m : Int)) = false := by simp; omega
  have a2 : decide ((255 : Int) < (m : Int)) = false := by simp; omega
  have hmf : ∀ (fn : Fn) (first cap : Array Value) (w : World), (Instr.makeFunc fn first cap).run Tryd.prog w = .ok (.func fn first cap) w := fun _ _ _ _ => rfl
  have Hm := Lib.hid hm
  clear hm
  have hF := hw.mono (G := fun k => F k ∧ k < w.heap.size) (fun k h h' => ⟨h', h⟩)
  have k1 := lboxed_kept w g m c A
  have z1 := lboxed_size w g m c A
  have d1 := lboxed_w w g m c A
  have d2 := lboxed_l w g m c A
  have d3 := lboxed_f w g m c A
  have hw1 := hF.kept k1 (fun _ _ h => h)
  have hx1 := hx.kept k1 (fun _ h => h.elim)
  go_enter Tryd.func33, Tryd.ntmps33
  go_wp2_with fail
  rw [lboxed_eq]
  refine (number_ok (lboxed w g m c A) _ g l m 1 hw1 (by omega) (by omega) (by omega) (by omega)).mono ?_
  rintro e w2 ⟨rfl, hw2, k2⟩
  have e1 := k2.cell d1 (fun h => absurd h.2 (by simp; try omega))
  have e2 := k2.cell d2 (fun h => absurd h.2 (by simp; try omega))
  have e3 := k2.cell d3 (fun h => absurd h.2 (by simp; try omega))
  have z2 := k2.size
  generalize lboxed w g m c A = W1 at *
  go_wp2_with fail
  have n1 : ∀ j, w.heap.size ≤ j → j < w.heap.size + 3 → ¬ upTo (fun k => F k ∧ k < w.heap.size) W1.heap.size w2.heap.size j := by
    rintro j h1 h2 (⟨_, h⟩ | ⟨h, _⟩)
    · omega
    · omega
  have hx2 := hx1.kept k2 (fun k h => hFN k h.1)
  have f1 : (w2.alloc (.cells #[.pointer (some ⟨g, 0, none⟩)] 90)).cell? ⟨w.heap.size, 0, none⟩ = some (.pointer (some ⟨g, 0, none⟩)) := ((Kept.refl (fun _ => False) w2).alloc _).cell e1 (fun h => h)
  have f2 : (w2.alloc (.cells #[.pointer (some ⟨g, 0, none⟩)] 90)).cell? ⟨w.heap.size + 1, 0, none⟩ = some (.slice A m c) := ((Kept.refl (fun _ => False) w2).alloc _).cell e2 (fun h => h)
  have f3 : (w2.alloc (.cells #[.pointer (some ⟨g, 0, none⟩)] 90)).cell? ⟨w.heap.size + 1 + 1, 0, none⟩ = some (.func (.func 34) #[] #[]) := ((Kept.refl (fun _ => False) w2).alloc _).cell e3 (fun h => h)
  have hlen : (l ++ be 1 m).length ≤ 1000 := by simp [be_length]; omega
  have hFN2 : ∀ k, upTo (fun k => F k ∧ k < w.heap.size) W1.heap.size w2.heap.size k → N ≤ k := by
    rintro k (⟨h, _⟩ | ⟨h, _⟩)
    · exact hFN k h
    · omega
  refine (attempt_ok ⟨g, 0, none⟩ 63 _ w2 _ enter_putl (lloop_ok _ _ g _ _ _ _ A m c x Hm.out N hFN2 (by simp; omega) hsm h2 (hw2.alloc _) hlen f2 f3 f1 (n1 _ (by omega) (by omega)) (n1 _ (by omega) (by omega)) (hx2.kept ((Kept.refl (fun _ => False) w2).alloc _) (fun _ h => h.elim)))).mono ?_
  rintro e w4 ⟨rfl, hw4, k4⟩
  go_wp2_with fail
  go_end0
  have z4 := k4.size
  simp at z4
  refine ⟨rfl, ?_, ?_⟩
  · rw [← List.append_assoc]
    refine hw4.mono fun k _ h => ?_
    rcases h with (⟨h, _⟩ | ⟨h, h'⟩) | ⟨h, h'⟩
    · exact .inl h
    · exact .inr ⟨by omega, by omega⟩
    · exact .inr ⟨by simp at h; omega, h'⟩
  · refine (((k1.mono (G := F) fun _ _ h => h.elim).follow k2 (fun k _ h => h.1)).alloc (.cells #[.pointer (some ⟨g, 0, none⟩)] 90)).follow k4 ?_
    rintro k hk (⟨h, _⟩ | ⟨h, h'⟩)
    · exact h
    · omega
end Go.Proofs.YtmmjpkijnecmcaaDoor
