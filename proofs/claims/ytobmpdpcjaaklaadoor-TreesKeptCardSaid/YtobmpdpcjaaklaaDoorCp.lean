/-
  append([]api.Digest{}, list...): a copy of a row of digests.
-/
import Derived.Test.YtobmpdpcjaaklaaDoorDiA
namespace Go.Proofs.YtobmpdpcjaaklaaDoor
open Go.RowKit

theorem addr_off_add (b o j : Nat) : (⟨b, o, none⟩ : Addr).add j = ⟨b, o + j, none⟩ := by simp [Addr.add]
theorem rowV_cells_at {w : World} {b off : Nat} (f : Nat → Array Value) (hf : ∀ k, (f k).size = 16) : ∀ n, (∀ k, k < n → w.rangeAt b (off + k * 16) (f k).toList) → ∀ j u, (rowV f n)[j]? = some u → w.cell? ⟨b, off + j, none⟩ = some u
  | 0, _, j, u, h => by simp [rowV] at h
  | n + 1, hR, j, u, h => by
    have hl := rowV_length f hf n
    rw [rowV] at h
    by_cases hj : j < n * 16
    · rw [List.getElem?_append_left (by omega)] at h
      exact rowV_cells_at f hf n (fun k hk => hR k (by omega)) j u h
    · rw [List.getElem?_append_right (by omega), hl] at h
      have := hR n (by omega) (j - n * 16) u h
      rwa [show off + n * 16 + (j - n * 16) = off + j by omega] at this
theorem info16q : (Tryd.prog.info? 25).map (fun i => (i.zero, i.size, i.bytes)) = some (some (.agg (arrV .u8 (List.replicate 16 0))), 16, 16) := by kernel_rfl
theorem wpList_copy_digs {ops : Array Oper} {rest : List Oper} {o : Oper} {a : Act} {w0 : World} {Q : Exit → Act → World → Prop} (hgd : o.guard = none) (s x : Operand)
    (ho : o.op = .call { callee := .builtin .append, args := #[s, x], argTypes := #[22, 22] }) (hs : a.eval s = .slice (some ⟨w0.heap.size, 0, none⟩) 0 0)
    (b off n c : Nat) (hx : a.eval x = .slice (some ⟨b, off, none⟩) n c) (ps : List (List Int)) (hl : ps.length = n) (h0 : 0 < n) (hn : n ≤ 1000) (hps : ∀ p ∈ ps, isDig p) (hD : DigsAt w0 b off ps)
    (h : ∀ gw cw w', w0.heap.size ≤ gw → n ≤ cw → w'.there gw 0 (n * 16) → DigsAt w' gw 0 ps → w0.grownBy w' none → wpList Tryd.prog ops Q rest (a.put o.dst (.slice (some ⟨gw, 0, none⟩) n cw)) w') :
    wpList Tryd.prog ops Q (o :: rest) a (w0.alloc (.cells #[] 25)) := by
  obtain ⟨i0, hi0, hz0, hz1, hz2⟩ := info_parts info16q
  obtain ⟨f, hf⟩ : ∃ f : Nat → Array Value, f = fun k => arrV .u8 (ps.getD k zeroC) := ⟨_, rfl⟩
  have hf16 : ∀ k, (f k).size = 16 := fun k => by rw [hf, arr_size]; exact (getD_dig hps k).1
  have hf1 : ∀ k, ((f k).all fun v => v.oneCell') = true := fun k => by rw [hf]; exact arr_one _ _
  obtain ⟨L, hL⟩ : ∃ L, L = rowV f n := ⟨_, rfl⟩
  have hg := World.grownBy_alloc w0 (.cells #[] 25) none
  refine wpList_append_own _ hgd s x 22 ho w0.heap.size 25 i0 _ 16 16 Tryd.underlying22 hi0 hz0 hz1 hz2 rfl (by decide) _ _ _ hs
    (World.ownsRow_lit (base := w0.heap.size) (e := 25) (size := 16) w0 #[] 0 (Nat.le_refl _) (by decide) rfl) ⟨b, off, none⟩ n c L hx (by rw [hL]; exact rowV_length f hf16 n)
    (fun j u hu => by
      rw [addr_off_add]
      rw [hL] at hu
      exact rowV_cells_at f hf16 n (fun k hk => by rw [hf]; exact range_grown (hD k (by omega)) hg) j u hu)
    (by rw [hL]; exact rowV_one f hf1 n) (by simp only [maxLen]; omega) (by omega) (by rw [World.size_alloc]; omega) ?_
  intro v' w4 hown hgrow _
  rw [Nat.zero_add, List.nil_append, hL] at hown
  obtain ⟨gw, cw, rfl, hc, hb, hth, hr⟩ := own_rows f hf16 h0 hown
  exact h gw cw w4 hb hc hth (fun j hj => by have := hr j (by omega); rw [hf] at this; exact this) (grown_fresh hg hgrow (Nat.le_refl _))
end Go.Proofs.YtobmpdpcjaaklaaDoor
