/-
  The reference reader's Number.
-/
import Derived.Test.YtjmdlpefacbmmaaDoorModel
import Derived.Test.YtjmdlpefacbmmaaDoorForth
namespace Go.Proofs.YtjmdlpefacbmmaaDoor
open Go.RowKit

section
variable (w : World) (m : Nat) (A : Option Addr) (c : Nat) (b : List UInt8) (k e : Nat)

/-- The reference reader has an error: no number is read. -/
theorem mnum_err (width : Int) (he : e ≠ 0) (h : MdIs w m A c b k e) :
    Calls Tryd.prog 39 #[.pointer (some ⟨m, 0, none⟩), .int .i64 width] w fun en w' => en = .returned (.int .i64 0) ∧ MdIs w' m A c b k e ∧ Kept (fun j => j = m) w w' := by
  have b1 : ((e : Int) == 0) = false := by simp; omega
  have b2 : ((e : Int) != 0) = true := by simp; omega
  by_cases hbad : width < 1 ∨ 8 < width
  · have hd : decide (width < 1) = true ∨ (decide (width < 1) = false ∧ decide ((8 : Int) < width) = true) := by
      by_cases h1 : width < 1
      · exact .inl (by simpa using h1)
      · exact .inr ⟨by simpa using h1, by simp; omega⟩
    have H := Lib.hid h
    clear hbad h
    rcases hd with t1 | ⟨t1, t2⟩
    all_goals
      go_enter Tryd.func39, Tryd.ntmps39
      go_wp2_with fail
      refine (mfail w m A c b k e 1 e (if_neg he) H.out).mono ?_
      rintro en w1 ⟨rfl, h1, k1⟩
      have c2 : w1.cell? ⟨m, 2, none⟩ = some (.int .i64 (e : Int)) := h1.1.cell 2
      have H1 := Lib.hid h1
      clear h1
      go_wp2_with fail
      go_region
      all_goals
        go_wp2
        go_ret
        exact ⟨rfl, H1.out.kept (Kept.refl (fun _ => False) w1).drew (fun h => h) (fun _ _ _ h => h), k1.drew⟩
  · have t1 : decide (width < 1) = false := by simp; omega
    have t2 : decide ((8 : Int) < width) = false := by simp; omega
    have c2 : w.cell? ⟨m, 2, none⟩ = some (.int .i64 (e : Int)) := h.1.cell 2
    have H := Lib.hid h
    clear hbad h
    go_enter Tryd.func39, Tryd.ntmps39
    go_wp2_with fail
    go_region
    all_goals
      go_wp2
      go_ret
      exact ⟨rfl, H.out.kept (Kept.refl (fun _ => False) w).drew (fun h => h) (fun _ _ _ h => h), (Kept.refl _ w).drew⟩
theorem mnum_bad (width : Int) (hbad : width < 1 ∨ 8 < width) (h : MdIs w m A c b k 0) :
    Calls Tryd.prog 39 #[.pointer (some ⟨m, 0, none⟩), .int .i64 width] w fun en w' => en = .returned (.int .i64 0) ∧ MdIs w' m A c b k 1 ∧ Kept (fun j => j = m) w w' := by
  have hd : decide (width < 1) = true ∨ (decide (width < 1) = false ∧ decide ((8 : Int) < width) = true) := by
    by_cases h1 : width < 1
    · exact .inl (by simpa using h1)
    · exact .inr ⟨by simpa using h1, by simp; omega⟩
  have H := Lib.hid h
  clear hbad h
  rcases hd with t1 | ⟨t1, t2⟩
  all_goals
    go_enter Tryd.func39, Tryd.ntmps39
    go_wp2_with fail
    refine (mfail w m A c b k 0 1 1 (if_pos rfl) H.out).mono ?_
    rintro en w1 ⟨rfl, h1, k1⟩
    have c2 : w1.cell? ⟨m, 2, none⟩ = some (.int .i64 1) := h1.1.cell 2
    have H1 := Lib.hid h1
    clear h1
    go_wp2_with fail
    go_region
    all_goals
      go_wp2
      go_ret
      exact ⟨rfl, H1.out.kept (Kept.refl (fun _ => False) w1).drew (fun h => h) (fun _ _ _ h => h), k1.drew⟩

theorem mnum_short (width : Int) (h1 : 1 ≤ width) (h8 : width ≤ 8) (r : Nat) (hr : b.length - k = r) (hlt : (r : Int) < width) (hl : b.length ≤ 1000000000) (h : MdIs w m A c b k 0) :
    Calls Tryd.prog 39 #[.pointer (some ⟨m, 0, none⟩), .int .i64 width] w fun en w' => en = .returned (.int .i64 0) ∧ MdIs w' m A c b k 2 ∧ Kept (fun j => j = m) w w' := by
  have t1 : decide (width < 1) = false := by simp; omega
  have t2 : decide ((8 : Int) < width) = false := by simp; omega
  have t3 : decide ((r : Int) < width) = true := by simpa using hlt
  have c2 : w.cell? ⟨m, 2, none⟩ = some (.int .i64 0) := h.1.cell 2
  have H := Lib.hid h
  have Hr := Lib.hid hr
  clear h hr
  go_enter Tryd.func39, Tryd.ntmps39
  go_wp2_with fail
  refine (mleft w m A c b k 0 r Hr.out H.out hl).mono ?_
  rintro en w1 ⟨rfl, k1⟩
  have H1 := Lib.hid (H.out.kept k1 (fun h => h) (fun _ _ _ h => h))
  go_wp2_with fail
  refine (mfail w1 m A c b k 0 2 2 (if_pos rfl) H1.out).mono ?_
  rintro en w2 ⟨rfl, h2, k2⟩
  have c2 : w2.cell? ⟨m, 2, none⟩ = some (.int .i64 2) := h2.1.cell 2
  have H2 := Lib.hid h2
  clear h2
  go_wp2_with fail
  go_region
  all_goals
    go_wp2
    go_ret
    exact ⟨rfl, H2.out.kept (Kept.refl (fun _ => False) w2).drew (fun h => h) (fun _ _ _ h => h), ((k1.mono (G := fun j => j = m) (fun _ _ h => h.elim)).then k2 (fun _ _ h => h)).drew⟩
end
end Go.Proofs.YtjmdlpefacbmmaaDoor
