/-
  The reference reader's Number, without an error.
-/
import Derived.Test.YtjmdlpefacbmmaaDoorModel2
namespace Go.Proofs.YtjmdlpefacbmmaaDoor
open Go.RowKit

section
variable (w : World) (m : Nat) (A : Option Addr) (c : Nat) (b : List UInt8) (k e : Nat)

theorem valOf_high (l : List UInt8) (x : UInt8) (r : List UInt8) (hl : l = x :: r) (h8 : r.length = 7) : (9223372036854775808 ≤ valOf l ↔ 128 ≤ x.toNat) := by
  subst hl
  have h := valOf_cons r x.toNat
  have hb := valOf_bound r
  have hv : valOf (x :: r) = r.foldl (fun n c => n * 256 + c.toNat) x.toNat := by simp [valOf]
  rw [hv, h]
  rw [h8] at hb ⊢
  omega

set_option maxRecDepth 100000 in
set_option maxHeartbeats 1000000 in
theorem mnum_ok (width : Nat) (h1 : 1 ≤ width) (h8 : width ≤ 8) (r : Nat) (hr : b.length - k = r) (hle : width ≤ r) (hv : valOf ((b.drop k).take width) < 9223372036854775808) (hl : b.length ≤ 1000000000) (h : MdIs w m A c b k 0) :
    Calls Tryd.prog 39 #[.pointer (some ⟨m, 0, none⟩), .int .i64 (width : Int)] w fun en w' => en = .returned (.int .i64 (valOf ((b.drop k).take width) : Nat)) ∧ MdIs w' m A c b (k + width) 0 ∧ Kept (fun j => j = m) w w' := by
  have t1 : decide ((width : Int) < 1) = false := by simp; omega
  have t2 : decide ((8 : Int) < (width : Int)) = false := by simp; omega
  have t3 : decide ((r : Int) < (width : Int)) = false := by simp; omega
  have t3' : ¬ (r < width) := by omega
  have c2 : w.cell? ⟨m, 2, none⟩ = some (.int .i64 0) := h.1.cell 2
  have c0 : w.cell? ⟨m, 0, none⟩ = some (.slice A b.length c) := h.1.cell 0
  have c1 : w.cell? ⟨m, 1, none⟩ = some (.int .i64 (k : Int)) := h.1.cell 1
  have H := Lib.hid h
  have Hr := Lib.hid hr
  clear h hr
  by_cases hw8 : width = 8
  · have t4 : ((width : Int) == 8) = true := by rw [hw8]; rfl
    have hkb : k < b.length := by have := Hr.out; omega
    have hxs : 128 ≤ (b[k]).toNat ↔ 9223372036854775808 ≤ valOf ((b.drop k).take width) := by
      refine (valOf_high _ b[k] ((b.drop (k + 1)).take 7) ?_ (by have := Hr.out; simp; omega)).symm
      rw [hw8, List.drop_eq_getElem_cons hkb]
      rfl
    go_enter Tryd.func39, Tryd.ntmps39
    go_wp2_with fail
    refine (mleft w m A c b k 0 r Hr.out H.out hl).mono ?_
    rintro en w1 ⟨rfl, k1⟩
    have hm1 := H.out.kept k1 (fun h => h) (fun _ _ _ h => h)
    have H1 := Lib.hid hm1
    have c2' := k1.cell c2 (fun h => h)
    obtain ⟨ab, ao, rfl, hcell⟩ := hm1.2.1.get (by intro e; rw [e] at hkb; simp at hkb)
    have hc := hcell k hkb
    have m0 : w1.cell? ⟨m, 0, none⟩ = some (.slice (some ⟨ab, ao, none⟩) b.length c) := hm1.1.cell 0
    have m1 : w1.cell? ⟨m, 1, none⟩ = some (.int .i64 (k : Int)) := hm1.1.cell 1
    have lo : (0 : Int) ≤ (k : Int) := by omega
    have hi0 : (k : Int) < (b.length : Int) := by omega
    clear hcell hm1
    obtain ⟨x, hx⟩ : ∃ x, b[k] = x := ⟨_, rfl⟩
    rw [hx] at hc hxs
    clear hx
    have t5 : decide ((128 : Int) ≤ (x.toNat : Int)) = false := by simp; omega
    have t5' : x.toNat < 128 := by omega
    clear hxs
    go_wp2_with fail
    go_region
    all_goals
      have H2 := Lib.hid (H1.out.kept (Kept.refl (fun _ => False) w1).drew (fun h => h) (fun _ _ _ h => h))
      have K2 := (k1.mono (G := fun j => j = m) (fun _ _ h => h.elim)).drew
      have c2d : w1.drew.cell? ⟨m, 2, none⟩ = some (.int .i64 0) := c2'
      clear c2'
      generalize w1.drew = w2 at *
      go_wp2_with fail
      go_loopw [5, 6] (fun vn vi wr => ∃ i, i ≤ width ∧ vi = .int .i64 (i : Int) ∧ vn = .int .i64 (valOf (((b.drop k).take width).take i) : Nat) ∧ MdIs wr m (some ⟨ab, ao, none⟩) c b (k + i) 0 ∧ Kept (fun j => j = m) w wr) (fun _ vi _ => width - (intOf vi).toNat)
      case atStart => exact ⟨0, Nat.zero_le _, rfl, rfl, H2.out, K2⟩
      case round =>
        obtain ⟨i, hi, rfl, rfl, hm, K⟩ := hrel
        have hXl : ((b.drop k).take width).length = width := by have := Hr.out; simp; omega
        by_cases hlt : i < width
        · have hb : decide ((i : Int) < (width : Int)) = true := by simp; omega
          have hib : k + i < b.length := by have := Hr.out; omega
          have hx : ((b.drop k).take width)[i]'(by omega) = b[k + i] := by simp
          have hvt := valOf_take ((b.drop k).take width) i (by omega)
          have hle2 : valOf (((b.drop k).take width).take (i + 1)) < 9223372036854775808 := by
            by_cases h7 : i + 1 ≤ 7
            · have := valOf_take_lt ((b.drop k).take width) (i + 1) (by omega)
              have h2 : 256 ^ (i + 1) ≤ 256 ^ 7 := Nat.pow_le_pow_right (by omega) h7
              omega
            · have : (((b.drop k).take width).take (i + 1)) = (b.drop k).take width := List.take_of_length_le (by omega)
              rw [this]; exact hv
          obtain ⟨ab2, ao2, hA2, hcell⟩ := hm.2.1.get (by intro e; rw [e] at hib; simp at hib)
          obtain ⟨rfl, rfl⟩ : ab = ab2 ∧ ao = ao2 := by simpa using hA2
          clear hA2
          have hc := hcell (k + i) hib
          have m0 : wr.cell? ⟨m, 0, none⟩ = some (.slice (some ⟨ab, ao, none⟩) b.length c) := hm.1.cell 0
          have m1 : wr.cell? ⟨m, 1, none⟩ = some (.int .i64 ((k + i : Nat) : Int)) := hm.1.cell 1
          have f1 := hm.1.frozen 1
          rw [hx] at hvt
          clear hcell hx
          obtain ⟨y, hy⟩ : ∃ y, b[k + i] = y := ⟨_, rfl⟩
          rw [hy] at hvt hc
          obtain ⟨vi, hvi⟩ : ∃ vi, valOf (((b.drop k).take width).take i) = vi := ⟨_, rfl⟩
          rw [hvi] at hvt ⊢
          have hy2 := y.toNat_lt
          have p1 : IntKind.i64.wrap (256 * (vi : Int)) = 256 * (vi : Int) := by rw [IntKind.wrap_i64]; omega
          have p2 : IntKind.i64.wrap (256 * (vi : Int) + (y.toNat : Int)) = 256 * (vi : Int) + (y.toNat : Int) := by rw [IntKind.wrap_i64]; omega
          have p3 : IntKind.i64.wrap (y.toNat : Int) = (y.toNat : Int) := by rw [IntKind.wrap_i64]; omega
          have p4 : IntKind.i64.wrap (((k + i : Nat) : Int) + 1) = ((k + i + 1 : Nat) : Int) := by rw [IntKind.wrap_i64]; omega
          have Hm := Lib.hid hm
          have Hvt := Lib.hid hvt
          have Hvi := Lib.hid hvi
          clear hm hvt hvi hy
          go_wp2_with fail
          go_region
          all_goals
            go_wp2_with fail
            go_roundw
            case rel => exact ⟨i + 1, by omega, by go_num, by rw [Hvt.out]; congr 2; push_cast; omega, (Hm.out.kept (Kept.refl (fun _ => False) wr).drew (fun h => h) (fun _ _ _ h => h)).step (k + (i + 1)) (by omega), K.drew.set (p := ⟨m, 1, none⟩) (.inl rfl) _⟩
            case measure => simp [intOf]; omega
        · obtain rfl : i = width := by omega
          have hb : decide ((i : Int) < (i : Int)) = false := by simp
          have htake : ((b.drop k).take i).take i = (b.drop k).take i := List.take_of_length_le (by omega)
          rw [htake]
          go_wp2_with fail
          go_ret
          exact ⟨rfl, hm, K⟩
  · have t4 : ((width : Int) == 8) = false := by simp; omega
    go_enter Tryd.func39, Tryd.ntmps39
    go_wp2_with fail
    refine (mleft w m A c b k 0 r Hr.out H.out hl).mono ?_
    rintro en w1 ⟨rfl, k1⟩
    have H1 := Lib.hid (H.out.kept k1 (fun h => h) (fun _ _ _ h => h))
    have c2' := k1.cell c2 (fun h => h)
    go_wp2_with fail
    go_region
    all_goals
      have H2 := Lib.hid (H1.out.kept (Kept.refl (fun _ => False) w1).drew (fun h => h) (fun _ _ _ h => h))
      have K2 := (k1.mono (G := fun j => j = m) (fun _ _ h => h.elim)).drew
      have c2d : w1.drew.cell? ⟨m, 2, none⟩ = some (.int .i64 0) := c2'
      clear c2'
      generalize w1.drew = w2 at *
      go_wp2_with fail
      go_loopw [5, 6] (fun vn vi wr => ∃ i, i ≤ width ∧ vi = .int .i64 (i : Int) ∧ vn = .int .i64 (valOf (((b.drop k).take width).take i) : Nat) ∧ MdIs wr m A c b (k + i) 0 ∧ Kept (fun j => j = m) w wr) (fun _ vi _ => width - (intOf vi).toNat)
      case atStart => exact ⟨0, Nat.zero_le _, rfl, rfl, H2.out, K2⟩
      case round =>
        obtain ⟨i, hi, rfl, rfl, hm, K⟩ := hrel
        have hXl : ((b.drop k).take width).length = width := by have := Hr.out; simp; omega
        by_cases hlt : i < width
        · have hb : decide ((i : Int) < (width : Int)) = true := by simp; omega
          have hib : k + i < b.length := by have := Hr.out; omega
          have hx : ((b.drop k).take width)[i]'(by omega) = b[k + i] := by simp
          have hvt := valOf_take ((b.drop k).take width) i (by omega)
          have hle2 : valOf (((b.drop k).take width).take (i + 1)) < 9223372036854775808 := by
            by_cases h7 : i + 1 ≤ 7
            · have := valOf_take_lt ((b.drop k).take width) (i + 1) (by omega)
              have h2 : 256 ^ (i + 1) ≤ 256 ^ 7 := Nat.pow_le_pow_right (by omega) h7
              omega
            · have : (((b.drop k).take width).take (i + 1)) = (b.drop k).take width := List.take_of_length_le (by omega)
              rw [this]; exact hv
          obtain ⟨ab, ao, rfl, hcell⟩ := hm.2.1.get (by intro e; rw [e] at hib; simp at hib)
          have hc := hcell (k + i) hib
          have m0 : wr.cell? ⟨m, 0, none⟩ = some (.slice (some ⟨ab, ao, none⟩) b.length c) := hm.1.cell 0
          have m1 : wr.cell? ⟨m, 1, none⟩ = some (.int .i64 ((k + i : Nat) : Int)) := hm.1.cell 1
          have f1 := hm.1.frozen 1
          rw [hx] at hvt
          clear hcell hx
          obtain ⟨y, hy⟩ : ∃ y, b[k + i] = y := ⟨_, rfl⟩
          rw [hy] at hvt hc
          obtain ⟨vi, hvi⟩ : ∃ vi, valOf (((b.drop k).take width).take i) = vi := ⟨_, rfl⟩
          rw [hvi] at hvt ⊢
          have hy2 := y.toNat_lt
          have p1 : IntKind.i64.wrap (256 * (vi : Int)) = 256 * (vi : Int) := by rw [IntKind.wrap_i64]; omega
          have p2 : IntKind.i64.wrap (256 * (vi : Int) + (y.toNat : Int)) = 256 * (vi : Int) + (y.toNat : Int) := by rw [IntKind.wrap_i64]; omega
          have p3 : IntKind.i64.wrap (y.toNat : Int) = (y.toNat : Int) := by rw [IntKind.wrap_i64]; omega
          have p4 : IntKind.i64.wrap (((k + i : Nat) : Int) + 1) = ((k + i + 1 : Nat) : Int) := by rw [IntKind.wrap_i64]; omega
          have Hm := Lib.hid hm
          have Hvt := Lib.hid hvt
          have Hvi := Lib.hid hvi
          clear hm hvt hvi hy
          go_wp2_with fail
          go_region
          all_goals
            go_wp2_with fail
            go_roundw
            case rel => exact ⟨i + 1, by omega, by go_num, by rw [Hvt.out]; congr 2; push_cast; omega, (Hm.out.kept (Kept.refl (fun _ => False) wr).drew (fun h => h) (fun _ _ _ h => h)).step (k + (i + 1)) (by omega), K.drew.set (p := ⟨m, 1, none⟩) (.inl rfl) _⟩
            case measure => simp [intOf]; omega
        · obtain rfl : i = width := by omega
          have hb : decide ((i : Int) < (i : Int)) = false := by simp
          have htake : ((b.drop k).take i).take i = (b.drop k).take i := List.take_of_length_le (by omega)
          rw [htake]
          go_wp2_with fail
          go_ret
          exact ⟨rfl, hm, K⟩

set_option maxRecDepth 100000 in
set_option maxHeartbeats 1000000 in
theorem mnum_big (width : Nat) (hw8 : width = 8) (r : Nat) (hr : b.length - k = r) (hle : width ≤ r) (hv : 9223372036854775808 ≤ valOf ((b.drop k).take width)) (hl : b.length ≤ 1000000000) (h : MdIs w m A c b k 0) :
    Calls Tryd.prog 39 #[.pointer (some ⟨m, 0, none⟩), .int .i64 (width : Int)] w fun en w' => en = .returned (.int .i64 0) ∧ MdIs w' m A c b k 1 ∧ Kept (fun j => j = m) w w' := by
  have t1 : decide ((width : Int) < 1) = false := by simp; omega
  have t2 : decide ((8 : Int) < (width : Int)) = false := by simp; omega
  have t3 : decide ((r : Int) < (width : Int)) = false := by simp; omega
  have t3' : ¬ (r < width) := by omega
  have c2 : w.cell? ⟨m, 2, none⟩ = some (.int .i64 0) := h.1.cell 2
  have H := Lib.hid h
  have Hr := Lib.hid hr
  clear h hr
  · have t4 : ((width : Int) == 8) = true := by rw [hw8]; rfl
    have hkb : k < b.length := by have := Hr.out; omega
    have hxs : 128 ≤ (b[k]).toNat ↔ 9223372036854775808 ≤ valOf ((b.drop k).take width) := by
      refine (valOf_high _ b[k] ((b.drop (k + 1)).take 7) ?_ (by have := Hr.out; simp; omega)).symm
      rw [hw8, List.drop_eq_getElem_cons hkb]
      rfl
    go_enter Tryd.func39, Tryd.ntmps39
    go_wp2_with fail
    refine (mleft w m A c b k 0 r Hr.out H.out hl).mono ?_
    rintro en w1 ⟨rfl, k1⟩
    have hm1 := H.out.kept k1 (fun h => h) (fun _ _ _ h => h)
    have H1 := Lib.hid hm1
    have c2' := k1.cell c2 (fun h => h)
    obtain ⟨ab, ao, rfl, hcell⟩ := hm1.2.1.get (by intro e; rw [e] at hkb; simp at hkb)
    have hc := hcell k hkb
    have m0 : w1.cell? ⟨m, 0, none⟩ = some (.slice (some ⟨ab, ao, none⟩) b.length c) := hm1.1.cell 0
    have m1 : w1.cell? ⟨m, 1, none⟩ = some (.int .i64 (k : Int)) := hm1.1.cell 1
    have lo : (0 : Int) ≤ (k : Int) := by omega
    have hi0 : (k : Int) < (b.length : Int) := by omega
    clear hcell hm1
    obtain ⟨x, hx⟩ : ∃ x, b[k] = x := ⟨_, rfl⟩
    rw [hx] at hc hxs
    clear hx
    have t5 : decide ((128 : Int) ≤ (x.toNat : Int)) = true := by simp; omega
    have t5' : 128 ≤ x.toNat := by omega
    clear hxs
    go_wp2_with fail
    go_region
    all_goals
      have H2 := Lib.hid (H1.out.kept (Kept.refl (fun _ => False) w1).drew (fun h => h) (fun _ _ _ h => h))
      have K2 := (k1.mono (G := fun j => j = m) (fun _ _ h => h.elim)).drew
      go_wp2_with fail
      refine (mfail _ m _ c b k 0 1 1 (if_pos rfl) H2.out).mono ?_
      rintro en w2 ⟨rfl, h2, k2⟩
      have c2e : w2.cell? ⟨m, 2, none⟩ = some (.int .i64 1) := h2.1.cell 2
      have H3 := Lib.hid h2
      clear h2
      go_wp2_with fail
      go_ret
      exact ⟨rfl, H3.out, K2.then k2 (fun _ _ h => h)⟩
end
end Go.Proofs.YtjmdlpefacbmmaaDoor
