/-
  An argument opened: a slice of booleans, as a list.
-/
import Derived.Test.YtonkdcbmmdhjgaaGreatDoorArg0
import Derived.Test.YtonkdcbmmdhjgaaGreatDoorArgE
import Derived.Test.YtonkdcbmmdhjgaaGreatDoorBl
namespace Go.Proofs.YtonkdcbmmdhjgaaGreatDoor
open Go.ChangeShapes Go.WideShapes Go.ChangeAt Go.RowKit

section
variable {H : Type} {enc : TypeId × Value → H} {w : World} {base : Nat} {spare : Nat → Bool} {held : Bool} {fuel : Nat} {cs : List Value} {x : DataW H × List MemPlace}
theorem cellsBool : Tryz.prog.cellsOf 4 = 1 := by kernel_rfl
theorem open_bls (h : DataW.trod enc Tryz.prog w base spare held fuel 26 cs = some x) :
    ∃ A n c, ∃ zs : List Bool, cs = [.slice A n c] ∧ zs.length = n ∧ n ≤ c ∧ BoolsAt w A zs := by
  obtain ⟨A, n, c, zs, hcs, hn, hc, hat⟩ := open_elems Tryz.underlying26 cellsBool (fun z es => es = [Value.bool z]) false (fun h => by obtain ⟨b, h1, _⟩ := DataW.trod_bool Tryz.underlying4 h; exact ⟨b, h1⟩) h
  refine ⟨A, n, c, zs, hcs, hn, hc, fun hne => ?_⟩
  obtain ⟨ad, eA, hat2⟩ := hat hne
  obtain ⟨b, off, rfl⟩ : ∃ b off, ad = ⟨b, off, none⟩ := by
    obtain ⟨es, rfl, _, hcell⟩ := hat2 0 (List.length_pos_iff.2 hne)
    have := hcell 0 (by omega)
    rw [Nat.zero_mul, Nat.zero_add] at this
    exact addr_form this rfl
  refine ⟨b, off, eA, fun k hk => ?_⟩
  obtain ⟨es, rfl, h3, hcell⟩ := hat2 k hk
  have := hcell 0 (by omega)
  rw [Go.WideShapes.add_plain, Nat.mul_one, Nat.add_zero] at this
  exact this
set_option maxRecDepth 100000 in
theorem arg_bls {v : Value} {d : DataW H} {p : List MemPlace} {b0 : Nat} (hv : Value.okWide Tryz.prog w .any b0 26 v) (h : DataW.Trod enc Tryz.prog w base spare held 26 v d p) :
    ∃ A n c, ∃ l : List Bool, v = .slice A n c ∧ l.length = n ∧ n ≤ c ∧ BoolsAt w A l := by
  obtain ⟨a0, len, cap, rfl⟩ := okWide_slice Tryz.underlying26 hv
  obtain ⟨fuel, hf⟩ := h
  obtain ⟨A, n, c, xs, hcs, hn, hc, hb⟩ := open_bls hf
  have e : Value.slice a0 len cap = .slice A n c := (List.cons.inj (show [Value.slice a0 len cap] = [Value.slice A n c] from hcs)).1
  exact ⟨A, n, c, xs, e, hn, hc, hb⟩
end
theorem BoolsAt.lt {w : World} {A : Option Addr} {l : List Bool} (h : BoolsAt w A l) : ∀ a, A = some a → l ≠ [] → a.block < w.heap.size := fun a e hne => by
  obtain ⟨b, off, e2, hc⟩ := h hne
  rw [e] at e2
  injection e2 with e2
  subst e2
  exact World.block_lt_of_cell? w _ (hc 0 (List.length_pos_iff.2 hne))
theorem BoolsAt.low {w w' : World} {F : Nat → Prop} {A : Option Addr} {l : List Bool} (h : BoolsAt w A l) (hk : Kept F w w') (hF : ∀ k, F k → w.heap.size ≤ k) : BoolsAt w' A l :=
  h.kept hk (fun a e hne hf => by have := h.lt a e hne; have := hF _ hf; omega)
end Go.Proofs.YtonkdcbmmdhjgaaGreatDoor
