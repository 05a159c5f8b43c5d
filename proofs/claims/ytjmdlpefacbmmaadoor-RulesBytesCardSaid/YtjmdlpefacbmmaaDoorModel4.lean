/-
  The reference reader's Number, all cases in one.
-/
import Derived.Test.YtjmdlpefacbmmaaDoorModel3
namespace Go.Proofs.YtjmdlpefacbmmaaDoor
open Go.RowKit

/-- What the reference reader is behind a call: the first error's number e, and, if there is none, the bytes l that are left. -/
def MdEnd (w : World) (m : Nat) (A : Option Addr) (c : Nat) (b : List UInt8) (e : Nat) (l : List UInt8) : Prop := ∃ k, MdIs w m A c b k e ∧ (e = 0 → b.drop k = l)
theorem mnum_is (w : World) (m : Nat) (A : Option Addr) (c : Nat) (b : List UInt8) (e : Nat) (l : List UInt8) (width : Int) (n1 e1 : Nat) (l1 : List UInt8) (hp : pNum width e l = (n1, e1, l1)) (hl : b.length ≤ 1000000000) (h : MdEnd w m A c b e l) :
    Calls Tryd.prog 39 #[.pointer (some ⟨m, 0, none⟩), .int .i64 width] w fun en w' => en = .returned (.int .i64 (n1 : Int)) ∧ MdEnd w' m A c b e1 l1 ∧ Kept (fun j => j = m) w w' := by
  obtain ⟨k, hm, hd⟩ := h
  by_cases he : e = 0
  · subst he
    have hd := hd rfl
    subst hd
    unfold pNum at hp
    rw [if_neg (by simp)] at hp
    by_cases hbad : width < 1 ∨ 8 < width
    · rw [if_pos hbad] at hp
      simp only [Prod.mk.injEq] at hp
      obtain ⟨rfl, rfl, rfl⟩ := hp
      exact (mnum_bad w m A c b k width hbad hm).mono fun _ _ ⟨h1, h2, h3⟩ => ⟨h1, ⟨k, h2, fun h => absurd h (by omega)⟩, h3⟩
    · rw [if_neg hbad] at hp
      obtain ⟨wd, rfl⟩ := Int.eq_ofNat_of_zero_le (show 0 ≤ width by omega)
      by_cases hs : ((b.drop k).length : Int) < (wd : Int)
      · rw [if_pos hs] at hp
        simp only [Prod.mk.injEq] at hp
        obtain ⟨rfl, rfl, rfl⟩ := hp
        exact (mnum_short w m A c b k wd (by omega) (by omega) (b.length - k) rfl (by rw [List.length_drop] at hs; omega) hl hm).mono fun _ _ ⟨h1, h2, h3⟩ => ⟨h1, ⟨k, h2, fun h => absurd h (by omega)⟩, h3⟩
      · rw [if_neg hs, Int.toNat_natCast] at hp
        rw [List.length_drop] at hs
        by_cases hv : 9223372036854775808 ≤ valOf ((b.drop k).take wd)
        · rw [if_pos hv] at hp
          simp only [Prod.mk.injEq] at hp
          obtain ⟨rfl, rfl, rfl⟩ := hp
          have h8 : wd = 8 := by
            have hb := valOf_bound ((b.drop k).take wd)
            have hx : ((b.drop k).take wd).length ≤ wd := by simp; omega
            rcases Nat.lt_or_ge wd 8 with h | h
            · have h2 : 256 ^ ((b.drop k).take wd).length ≤ 256 ^ 7 := Nat.pow_le_pow_right (by omega) (by omega)
              omega
            · omega
          exact (mnum_big w m A c b k wd h8 (b.length - k) rfl (by omega) hv hl hm).mono fun _ _ ⟨h1, h2, h3⟩ => ⟨h1, ⟨k, h2, fun h => absurd h (by omega)⟩, h3⟩
        · rw [if_neg hv] at hp
          simp only [Prod.mk.injEq] at hp
          obtain ⟨rfl, rfl, rfl⟩ := hp
          exact (mnum_ok w m A c b k wd (by omega) (by omega) (b.length - k) rfl (by omega) (by omega) hl hm).mono fun _ _ ⟨h1, h2, h3⟩ => ⟨h1, ⟨k + wd, h2, fun _ => by rw [List.drop_drop]⟩, h3⟩
  · unfold pNum at hp
    rw [if_pos he] at hp
    simp only [Prod.mk.injEq] at hp
    obtain ⟨rfl, rfl, rfl⟩ := hp
    exact (mnum_err w m A c b k e width he hm).mono fun _ _ ⟨h1, h2, h3⟩ => ⟨h1, ⟨k, h2, fun h => absurd h he⟩, h3⟩
end Go.Proofs.YtjmdlpefacbmmaaDoor
