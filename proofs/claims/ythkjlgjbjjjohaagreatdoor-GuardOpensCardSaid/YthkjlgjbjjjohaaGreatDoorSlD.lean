/-
  Slots: the record in memory; place, Count, Record, on.
-/
import Derived.Test.YthkjlgjbjjjohaaGreatDoorSlC
import Derived.Laws.BitsLemmas
import Derived.Laws.Bits64
namespace Go.Proofs.YthkjlgjbjjjohaaGreatDoor
open Go.RowKit Go.Maps

theorem wraps_i64_63 (n : Int) (h₀ : 0 ≤ n) (h₁ : n < 2 ^ 63) : IntKind.i64.wrap n = n := by
  have : (2 : Int) ^ 63 = 9223372036854775808 := by decide
  rw [this] at h₁
  rw [IntKind.wrap_i64]; omega
theorem and_one (c : Nat) (h : c < 9223372036854775808) : bits .and .i64 (c : Int) 1 = ((c % 2 : Nat) : Int) := by
  have h := (bits_nat .i64 63 (by decide) wraps_i64_63 c 1 (by have : (2 : Nat) ^ 63 = 9223372036854775808 := by decide
                                                               omega) (by decide)).1
  rw [Nat.and_one_is_mod] at h
  exact h
/-- A record of count cn on the disk d, at base: its block s. -/
def SlAt (w : World) (s d b m : Nat) (base : Int) (cn : Nat) (rc : List UInt8) : Prop :=
  (s ≠ d ∧ s ≠ b ∧ s ≠ m) ∧ ∃ A cap, Blk w s 109 #[.pointer (some ⟨d, 0, none⟩), .int .i64 base, .int .i64 (cn : Int), .slice A rc.length cap] ∧ BytesAt w A rc ∧ ∀ ad, A = some ad → rc ≠ [] → ¬ (ad.block = d ∨ ad.block = b ∨ ad.block = m ∨ ad.block = s)
theorem SlAt.kept {w w' : World} {s d b m : Nat} {base : Int} {cn : Nat} {rc : List UInt8} (h : SlAt w s d b m base cn rc) (hk : Kept (fun j => j = d ∨ j = b ∨ j = m) w w') : SlAt w' s d b m base cn rc := by
  obtain ⟨hs, A, cap, h1, h2, h4⟩ := h
  exact ⟨hs, A, cap, h1.kept hk (by omega), h2.kept' hk (fun ad e hne hf => h4 ad e hne (by rcases hf with h | h | h; exact .inl h; exact .inr (.inl h); exact .inr (.inr (.inl h)))), h4⟩
theorem SlAt.grown {w w' : World} {s d b m : Nat} {base : Int} {cn : Nat} {rc : List UInt8} (h : SlAt w s d b m base cn rc) (hg : w.grownBy w' none) : SlAt w' s d b m base cn rc :=
  h.kept (Kept.of_grown (F := fun j => j = d ∨ j = b ∨ j = m) hg fun _ e => by cases e)
theorem SlAt.put {w : World} {s d b m : Nat} {base : Int} {cn c : Nat} {rc x : List UInt8} {A : Option Addr} {cap : Nat} (h : SlAt w s d b m base cn rc) (hx : BytesAt w A x) (hA : ∀ ad, A = some ad → x ≠ [] → ¬ (ad.block = d ∨ ad.block = b ∨ ad.block = m ∨ ad.block = s)) :
    SlAt ((w.setCell ⟨s, 2, none⟩ (.int .i64 (c : Int))).setCell ⟨s, 3, none⟩ (.slice A x.length cap)) s d b m base c x := by
  obtain ⟨hs, A0, cap0, h1, h2, h4⟩ := h
  have hk : Kept (fun j => j = s) w ((w.setCell ⟨s, 2, none⟩ (.int .i64 (c : Int))).setCell ⟨s, 3, none⟩ (.slice A x.length cap)) := ((Kept.refl (fun j => j = s) w).set (p := ⟨s, 2, none⟩) (.inl rfl) _).set (p := ⟨s, 3, none⟩) (.inl rfl) _
  have hb := (h1.set 2 (.int .i64 (c : Int))).set 3 (.slice A x.length cap)
  simp only [List.setIfInBounds_toArray, List.set_cons_zero, List.set_cons_succ] at hb
  exact ⟨hs, A, cap, hb, hx.kept' hk (fun ad e hne hf => hA ad e hne (.inr (.inr (.inr hf)))), hA⟩
section
variable {w : World} {s d b m : Nat} {base : Int} {cn : Nat} {rc : List UInt8}
theorem place_is (h : SlAt w s d b m base cn rc) (c : Nat) (hc : c < 9223372036854775808) (hb : 0 ≤ base ∧ base < 1000000) : Calls Tryz.prog 42 #[.pointer (some ⟨s, 0, none⟩), .int .i64 (c : Int)] w fun e w' => e = .returned (.int .i64 (base + ((c % 2 : Nat) : Int))) ∧ w' = w := by
  obtain ⟨_, A, cap, h1, _⟩ := h
  have c1 := h1.cell 1
  simp only [List.getElem?_toArray, List.getElem?_cons_zero, List.getElem?_cons_succ] at c1
  have ha := and_one c hc
  obtain ⟨q, hq⟩ : ∃ q : Int, ((c % 2 : Nat) : Int) = q := ⟨_, rfl⟩
  have hq2 : 0 ≤ q ∧ q < 2 := by omega
  rw [hq] at ha ⊢
  clear h1 hq
  go_enter Tryz.func42, Tryz.ntmps42
  go_wp2_with fail
  go_ret
  exact ⟨rfl, rfl⟩
theorem record_is (h : SlAt w s d b m base cn rc) (hr : rc.length ≤ 1000000) : Calls Tryz.prog 38 #[.pointer (some ⟨s, 0, none⟩)] w fun e w' => ∃ A c, e = .returned (.slice A rc.length c) ∧ BytesAt w' A rc ∧ w.grownBy w' none := by
  obtain ⟨_, A, cap, h1, h2, _⟩ := h
  have c1 := h1.cell 3
  simp only [List.getElem?_toArray, List.getElem?_cons_zero, List.getElem?_cons_succ] at c1
  have HX := Lib.hid (And.intro h2 hr)
  clear h1 h2 hr
  go_enter Tryz.func38, Tryz.ntmps38
  go_wp2_with fail
  refine (clone_any w A rc.length cap rc rfl HX.out.1 (by have := HX.out.2; omega)).mono ?_
  rintro e w1 ⟨A1, c1, rfl, ho, hg⟩
  have H1 := Lib.hid (And.intro (own_bytesAt ho) hg)
  clear ho hg
  go_wp2_with fail
  go_ret
  exact ⟨A1, c1, rfl, H1.out.1, H1.out.2⟩
set_option maxRecDepth 100000 in
theorem on_is (z : DkS) (h : DkIs w d b m z) (B : Nat) (er : Addr) (he : ErrAt w B 0 er) (base : Int) : Calls Tryz.prog 40 #[.pointer (some ⟨d, 0, none⟩), .int .i64 base] w fun e w' => w.grownBy w' none ∧
    ((¬ (0 ≤ base ∧ base + 2 ≤ (z.syn.length : Int)) ∧ e = .returned (.tuple #[.pointer none, errV er])) ∨
     ((0 ≤ base ∧ base + 2 ≤ (z.syn.length : Int)) ∧ e = .returned (.tuple #[.pointer (some ⟨w.heap.size, 0, none⟩), .nilIface]) ∧ SlAt w' w.heap.size d b m base 0 [])) := by
  have er0 := he.1
  have hlt := h.1.lt
  have hlb := h.2.1.lt
  have hlm : m < w.heap.size := by obtain ⟨D, hD, _⟩ := h.2.2.1; exact hD.lt
  have HS := Lib.hid (dk_size w d b m z h)
  obtain ⟨N, hN⟩ : ∃ N, z.syn.length = N := ⟨_, rfl⟩
  have hN2 : N ≤ 4096 := by rw [← hN]; exact h.2.2.2.2.2.1.2
  rw [hN] at HS ⊢
  clear h he hN
  by_cases h1 : base < 0
  · have d1 : decide (base < 0) = true := by simpa using h1
    have HB := Lib.hid h1
    clear h1
    go_enter Tryz.func40, Tryz.ntmps40
    go_wp2_with fail
    go_quiet (fail)
    go_wp2_with fail
    refine bodyPost_ret (results_tmp2S7 rfl _ _ _) rfl ?_
    exact ⟨⟨rfl, rfl, rfl, Nat.le_refl _, fun _ _ _ => rfl⟩, .inl ⟨by have := HB.out; omega, rfl⟩⟩
  · have d1 : decide (base < 0) = false := by simpa using h1
    by_cases h2 : (N : Int) - 2 < base
    · have d2 : decide ((N : Int) - 2 < base) = true := by simpa using h2
      have HB := Lib.hid h2
      clear h1 h2
      go_enter Tryz.func40, Tryz.ntmps40
      go_wp2_with fail
      refine HS.out.mono ?_
      rintro e w1 ⟨rfl, hw1⟩
      obtain rfl : w = w1 := hw1.symm
      go_wp2_with fail
      go_quiet (fail)
      go_wp2_with fail
      refine bodyPost_ret (results_tmp2S7 rfl _ _ _) rfl ?_
      exact ⟨⟨rfl, rfl, rfl, Nat.le_refl _, fun _ _ _ => rfl⟩, .inl ⟨by have := HB.out; omega, rfl⟩⟩
    · have d2 : decide ((N : Int) - 2 < base) = false := by simpa using h2
      have HB := Lib.hid (And.intro h1 (And.intro h2 (And.intro hlt (And.intro hlb hlm))))
      clear h1 h2 hlt hlb hlm
      go_enter Tryz.func40, Tryz.ntmps40
      go_wp2_with fail
      refine HS.out.mono ?_
      rintro e w1 ⟨rfl, hw1⟩
      obtain rfl : w = w1 := hw1.symm
      go_wp2_with fail
      refine bodyPost_ret (results_tmp2S7 rfl _ _ _) rfl ?_
      obtain ⟨h1, h2, hlt, hlb, hlm⟩ := HB.out
      refine ⟨World.grownBy_alloc _ _ none, .inr ⟨by omega, rfl, by omega, none, 0, Blk.new _ _ _, BytesAt.nil _ _, fun _ e => by cases e⟩⟩
end
end Go.Proofs.YthkjlgjbjjjohaaGreatDoor
