/-
  The reference reader's small methods: Fail, Left, Done.
-/
import Derived.Test.YtjmdlpefacbmmaaDoorRead3
namespace Go.Proofs.YtjmdlpefacbmmaaDoor
open Go.RowKit

/-- The reference reader at block m: the bytes b, of which `k` are read, and the first error's number. -/
def MdIs (w : World) (m : Nat) (A : Option Addr) (c : Nat) (b : List UInt8) (k e : Nat) : Prop :=
  Blk w m 71 #[.slice A b.length c, .int .i64 (k : Int), .int .i64 (e : Int)] ∧ BytesAt w A b ∧ k ≤ b.length ∧ b.length ≤ c ∧ ∀ ad, A = some ad → b ≠ [] → ad.block ≠ m
theorem MdIs.kept {w w' : World} {F : Nat → Prop} {m : Nat} {A : Option Addr} {c : Nat} {b : List UInt8} {k e : Nat} (h : MdIs w m A c b k e) (hk : Kept F w w') (hm : ¬ F m) (hA : ∀ ad, A = some ad → b ≠ [] → ¬ F ad.block) : MdIs w' m A c b k e :=
  ⟨h.1.kept hk hm, h.2.1.kept' hk hA, h.2.2⟩
theorem MdIs.set {w : World} {m : Nat} {A : Option Addr} {c : Nat} {b : List UInt8} {k e : Nat} (h : MdIs w m A c b k e) (e' : Nat) : MdIs (w.setCell ⟨m, 2, none⟩ (.int .i64 (e' : Int))) m A c b k e' :=
  ⟨by simpa using h.1.set 2 (.int .i64 (e' : Int)), h.2.1.kept' ((Kept.refl (fun j => j = m) w).set (p := ⟨m, 2, none⟩) (.inl rfl) _) (fun ad e hne => h.2.2.2.2 ad e hne), h.2.2⟩
theorem MdIs.step {w : World} {m : Nat} {A : Option Addr} {c : Nat} {b : List UInt8} {k e : Nat} (h : MdIs w m A c b k e) (k' : Nat) (hk : k' ≤ b.length) : MdIs (w.setCell ⟨m, 1, none⟩ (.int .i64 (k' : Int))) m A c b k' e :=
  ⟨by simpa using h.1.set 1 (.int .i64 (k' : Int)), h.2.1.kept' ((Kept.refl (fun j => j = m) w).set (p := ⟨m, 1, none⟩) (.inl rfl) _) (fun ad e hne => h.2.2.2.2 ad e hne), hk, h.2.2.2.1, h.2.2.2.2⟩

section
variable (w : World) (m : Nat) (A : Option Addr) (c : Nat) (b : List UInt8) (k e : Nat)
theorem mfail (n e' : Nat) (h' : (if e = 0 then n else e) = e') (h : MdIs w m A c b k e) :
    Calls Tryd.prog 49 #[.pointer (some ⟨m, 0, none⟩), .int .i64 (n : Int)] w fun en w' => en = .returned (.tuple #[]) ∧ MdIs w' m A c b k e' ∧ Kept (fun j => j = m) w w' := by
  have c2 : w.cell? ⟨m, 2, none⟩ = some (.int .i64 (e : Int)) := h.1.cell 2
  have f2 := h.1.frozen 2
  by_cases h0 : e = 0
  · have b1 : ((e : Int) == 0) = true := by rw [h0]; rfl
    rw [if_pos h0] at h'
    subst h'
    have H := Lib.hid h
    clear h h0
    go_enter Tryd.func49, Tryd.ntmps49
    go_wp2
    go_end0
    exact ⟨rfl, H.out.set n, (Kept.refl (fun j => j = m) w).set (p := ⟨m, 2, none⟩) (.inl rfl) _⟩
  · have b1 : ((e : Int) == 0) = false := by simp; omega
    rw [if_neg h0] at h'
    subst h'
    have H := Lib.hid h
    clear h h0
    go_enter Tryd.func49, Tryd.ntmps49
    go_wp2
    go_end0
    exact ⟨rfl, H.out, Kept.refl _ _⟩
theorem mleft (r : Nat) (hr : b.length - k = r) (h : MdIs w m A c b k e) (hl : b.length ≤ 1000000000) :
    Calls Tryd.prog 50 #[.pointer (some ⟨m, 0, none⟩)] w fun en w' => en = .returned (.int .i64 (r : Int)) ∧ Kept (fun _ => False) w w' := by
  have c0 : w.cell? ⟨m, 0, none⟩ = some (.slice A b.length c) := h.1.cell 0
  have c1 : w.cell? ⟨m, 1, none⟩ = some (.int .i64 (k : Int)) := h.1.cell 1
  have hk := h.2.2.1
  have hs : IntKind.i64.wrap ((b.length : Int) - (k : Int)) = (r : Int) := by rw [IntKind.wrap_i64]; omega
  clear h hr
  go_enter Tryd.func50, Tryd.ntmps50
  go_wp2_with fail
  go_region
  all_goals
    go_wp2
    go_ret
    exact ⟨rfl, (Kept.refl _ w).drew⟩
theorem mdone (e' : Nat) (hp : pDone e (b.drop k) = e') (h : MdIs w m A c b k e) (hl : b.length ≤ 1000000000) :
    Calls Tryd.prog 40 #[.pointer (some ⟨m, 0, none⟩)] w fun en w' => en = .returned (.int .i64 (e' : Int)) ∧ Kept (fun _ => False) w w' := by
  have c2 : w.cell? ⟨m, 2, none⟩ = some (.int .i64 (e : Int)) := h.1.cell 2
  have H := Lib.hid h
  obtain ⟨r, hr⟩ : ∃ r, b.length - k = r := ⟨_, rfl⟩
  have Hr := Lib.hid hr
  by_cases h0 : e = 0
  · have b1 : ((e : Int) == 0) = true := by rw [h0]; rfl
    by_cases h1 : 0 < r
    · have b2 : decide ((0 : Int) < (r : Int)) = true := by simp; omega
      have hp' : e' = 3 := by
        rw [← hp, pDone, if_pos ⟨h0, fun h => by have := congrArg List.length h; simp at this; omega⟩]
      subst hp'
      clear hp h0 h hr
      go_enter Tryd.func40, Tryd.ntmps40
      go_wp2_with fail
      refine (mleft w m A c b k e r Hr.out H.out hl).mono ?_
      rintro en w1 ⟨rfl, k1⟩
      go_wp2_with fail
      go_ret
      exact ⟨rfl, k1⟩
    · have b2 : decide ((0 : Int) < (r : Int)) = false := by simp; omega
      have hp' : e' = e := by
        rw [← hp, pDone, if_neg (fun h => h.2 (List.drop_eq_nil_of_le (by omega)))]
      subst hp'
      clear hp h0 h hr
      go_enter Tryd.func40, Tryd.ntmps40
      go_wp2_with fail
      refine (mleft w m A c b k _ r Hr.out H.out hl).mono ?_
      rintro en w1 ⟨rfl, k1⟩
      have c2' := k1.cell c2 (fun h => h)
      go_wp2_with fail
      go_ret
      exact ⟨rfl, k1⟩
  · have b1 : ((e : Int) == 0) = false := by simp; omega
    have hp' : e' = e := by rw [← hp, pDone, if_neg (fun h => h0 h.1)]
    subst hp'
    clear hp h0 h
    go_enter Tryd.func40, Tryd.ntmps40
    go_wp2_with fail
    go_ret
    exact ⟨rfl, Kept.refl _ _⟩
end
end Go.Proofs.YtjmdlpefacbmmaaDoor
