/-
  A row of copies whose bytes are written.
-/
import Derived.Test.YtnhjokcjdjfijaaDoorPlP
namespace Go.Proofs.YtnhjokcjdjfijaaDoor
open Go.RowKit

theorem list_choose {P : Value → List UInt8 → Prop} : ∀ zs : List (Value × List UInt8), (∀ z ∈ zs, ∃ y, P z.1 y) → ∃ zs' : List (Value × List UInt8), zs'.map (·.1) = zs.map (·.1) ∧ ∀ z ∈ zs', P z.1 z.2
  | [], _ => ⟨[], rfl, fun _ h => by cases h⟩
  | z :: zs, h => by
    obtain ⟨y, hy⟩ := h z List.mem_cons_self
    obtain ⟨zs', h1, h2⟩ := list_choose zs (fun x hx => h x (List.mem_cons_of_mem _ hx))
    refine ⟨(z.1, y) :: zs', by simp [h1], fun x hx => ?_⟩
    rcases List.mem_cons.1 hx with rfl | hx
    · exact hy
    · exact h2 x hx
theorem Soft.set {w : World} {b' : Nat} (h : Soft w b') (b o : Nat) (v : Value) : Soft (w.setCell ⟨b, o, none⟩ v) b' := by
  by_cases e : b' = b
  · subst e
    obtain ⟨cs, h⟩ := h
    exact ⟨_, h.set o v⟩
  · exact h.kept ((Kept.refl (fun k => k = b) w).set (p := ⟨b, o, none⟩) (.inl rfl) v) e
theorem BytesAt.bump {w : World} {B : Option Addr} {y : List UInt8} (h : BytesAt w B y) (b o : Nat) (v : UInt8) : ∃ y' : List UInt8, y'.length = y.length ∧ BytesAt (w.setCell ⟨b, o, none⟩ (.int .u8 v.toNat)) B y' := by
  by_cases hne : y = []
  · subst hne; exact ⟨[], rfl, BytesAt.nil _ _⟩
  obtain ⟨ad, rfl, hc⟩ := h hne
  refine ⟨List.ofFn (n := y.length) fun j => if (⟨b, o, none⟩ : Addr) = ad.add j.1 then v else y[j.1], by simp, fun _ => ⟨ad, rfl, fun j hj => ?_⟩⟩
  have hj' : j < y.length := by simpa using hj
  rw [List.getElem_ofFn]
  by_cases e : (⟨b, o, none⟩ : Addr) = ad.add j
  · rw [if_pos e, ← e]
    exact World.cell?_setCell_same' _ _ _ (by rw [e, hc j hj']; rfl)
  · rw [if_neg e, World.cell?_setCell_other (h := e)]
    exact hc j hj'
theorem RowS.bump {w : World} {S : Nat → Prop} {A : Option Addr} {n c : Nat} {zs : List (Value × List UInt8)} (h : RowS w S A n c zs) (b o : Nat) (hA : ∀ a, A = some a → a.block ≠ b) (v : UInt8) :
    ∃ zs', zs'.map (·.1) = zs.map (·.1) ∧ RowS (w.setCell ⟨b, o, none⟩ (.int .u8 v.toNat)) S A n c zs' := by
  have hK : Kept (fun k => k = b) w (w.setCell ⟨b, o, none⟩ (.int .u8 v.toNat)) := (Kept.refl (fun k => k = b) w).set (p := ⟨b, o, none⟩) (.inl rfl) _
  obtain ⟨zs', h1, h2⟩ := list_choose (P := fun z1 y => ElemS (w.setCell ⟨b, o, none⟩ (.int .u8 v.toNat)) S A (z1, y)) zs (fun z hz => by
    obtain ⟨B, cB, e1, e2, e3⟩ := h.2.2 z hz
    obtain ⟨y', q1, q2⟩ := e2.bump b o v
    refine ⟨y', B, cB, by rw [e1, ← q1], q2, fun ad e hne => ?_⟩
    have hne' : z.2 ≠ [] := by
      intro h0
      rw [h0] at q1
      exact hne (List.length_eq_zero_iff.1 q1)
    exact ⟨(e3 ad e hne').1, (e3 ad e hne').2.1, (e3 ad e hne').2.2.set b o _⟩)
  refine ⟨zs', h1, by
    rw [h1]
    exact own_kept h.1 hK (fun k hk e => by
      rcases A with _ | ad
      · simp [Value.ownBlock] at hk
      · have e2 : ad.block = k := by simpa [Value.ownBlock] using hk
        exact hA ad rfl (by omega)), h.2.1, h2⟩
theorem u8_any (z : Int) : ∃ v : UInt8, IntKind.u8.wrap z = (v.toNat : Int) := by
  have h : 0 ≤ IntKind.u8.wrap z ∧ IntKind.u8.wrap z < 256 := by
    have e : IntKind.u8.wrap z = z % 256 := by simp [IntKind.wrap, IntKind.signed, IntKind.bits]
    omega
  obtain ⟨b, h1, _⟩ := u8_byte _ h
  exact ⟨b, h1.symm⟩
/-- Where the element at j lies, whatever its bytes. -/
theorem RowS.elem {w : World} {S : Nat → Prop} {A : Option Addr} {n c : Nat} {zs zs0 : List (Value × List UInt8)} (h : RowS w S A n c zs) (hz : zs.map (·.1) = zs0.map (·.1)) {j m cB : Nat} {B : Option Addr} (hj : (zs0.map (·.1))[j]? = some (.slice B m cB)) :
    ∃ y, y.length = m ∧ BytesAt w B y ∧ ∀ ad, B = some ad → y ≠ [] → S ad.block ∧ (∀ a, A = some a → a.block ≠ ad.block) ∧ Soft w ad.block := by
  rw [← hz, List.getElem?_map] at hj
  obtain ⟨z, hz1, hz2⟩ := Option.map_eq_some_iff.1 hj
  obtain ⟨B', cB', e1, e2, e3⟩ := h.2.2 z (List.mem_of_getElem? hz1)
  rw [e1] at hz2
  injection hz2 with q1 q2 q3
  subst q1 q3
  exact ⟨z.2, q2, e2, e3⟩
end Go.Proofs.YtnhjokcjdjfijaaDoor
