/-
  slices.Clone over validators.
-/
import Derived.Test.YthcilpfcdblmkaaDoorPwLb
import Derived.Test.YthcilpfcdblmkaaDoorGe
namespace Go.Proofs.YthcilpfcdblmkaaDoor
open Go.RowKit

theorem VdsAt.kept {w w' : World} {F : Nat → Prop} {A : Option Addr} {V : List Vd} (h : VdsAt w A V) (hk : Kept F w w') (hF : ∀ a, A = some a → ¬ F a.block) : VdsAt w' A V := fun hne => by
  obtain ⟨b, off, e, hc⟩ := h hne
  exact ⟨b, off, e, fun k hl j v hj => hk.cell (hc k hl j v hj) (hF ⟨b, off, none⟩ e)⟩
theorem flat_cells_at {w : World} {b : Nat} : ∀ (V : List Vd) (off : Nat) (_ : keysOk V), (∀ k (h : k < V.length), w.rangeAt b (off + k * 17) V[k].cells) → ∀ j u, (V.flatMap Vd.cells)[j]? = some u → w.cell? ⟨b, off + j, none⟩ = some u
  | [], _, _, _, j, u, h => by simp at h
  | x :: V, off, ok, hR, j, u, h => by
    have hx := Vd.cells_length (ok x (by simp))
    rw [List.flatMap_cons] at h
    by_cases hj : j < 17
    · rw [List.getElem?_append_left (by omega)] at h
      have := hR 0 (by simp) j u (by simpa using h)
      simpa using this
    · rw [List.getElem?_append_right (by omega), hx] at h
      have := flat_cells_at V (off + 17) (fun y hy => ok y (by simp [hy])) (fun k hk => by
        have := hR (k + 1) (by simpa using hk)
        rw [show off + 17 + k * 17 = off + (k + 1) * 17 by omega]
        simpa using this) (j - 17) u h
      rwa [show off + 17 + (j - 17) = off + j by omega] at this
theorem flat_len {V : List Vd} (ok : keysOk V) : (V.flatMap Vd.cells).length = V.length * 17 := by
  induction V with
  | nil => rfl
  | cons x V ih =>
    rw [List.flatMap_cons, List.length_append, Vd.cells_length (ok x (by simp)), ih (fun y hy => ok y (by simp [hy])), List.length_cons]
    omega
theorem flat_one {V : List Vd} : ∀ u ∈ V.flatMap Vd.cells, u.oneCell' = true := fun u hu => by
  obtain ⟨x, _, hu⟩ := List.mem_flatMap.1 hu
  rw [Vd.cells] at hu
  rcases List.mem_append.1 hu with h | h
  · obtain ⟨z, _, rfl⟩ := List.mem_map.1 h; rfl
  · rw [List.mem_singleton.1 h]; rfl
theorem own_vds {w : World} {base : Nat} {e : TypeId} {v : Value} {n : Nat} {V : List Vd} (ok : keysOk V) (h : w.ownsRow base e 17 v n (V.flatMap Vd.cells)) :
    ∃ A cap, v = .slice A V.length cap ∧ V.length ≤ cap ∧ VdsAt w A V ∧ ∀ a, A = some a → base ≤ a.block := by
  have hl : V.length = n := by have := h.1; rw [flat_len ok] at this; omega
  subst hl
  rcases h.2 with ⟨hv, h0⟩ | ⟨g, cap, cur, rfl, hb, hg, hnc, _, hsz, ht⟩
  · exact ⟨none, 0, by rw [hv, h0], by omega, fun hne => absurd (List.length_eq_zero_iff.1 h0) hne, fun _ e => by cases e⟩
  · refine ⟨_, cap, rfl, hnc, fun _ => ⟨g, 0, rfl, fun k hk j u hu => ?_⟩, fun a e => by cases e; exact hb⟩
    have hB : Blk w g e cur := hg
    have hj : j < 17 := by have := (List.getElem?_eq_some_iff.1 hu).1; rwa [Vd.cells_length (ok _ (List.getElem_mem hk))] at this
    have hlt : k * 17 + j < V.length * 17 := by omega
    rw [Nat.zero_add, hB.cell, ← Array.getElem?_toList]
    have e1 : (cur.toList.take (V.length * 17))[k * 17 + j]? = cur.toList[k * 17 + j]? := by rw [List.getElem?_take, if_pos hlt]
    rw [← e1, ht]
    exact flat_get ok hk hu
theorem vd_info : (Tryd.prog.info? 61).map (fun i => (i.zero, i.size, i.bytes)) = some (some (.agg (List.replicate 16 (Value.int .u8 0) ++ [Value.int .i64 0]).toArray), 17, 24) := by kernel_rfl

set_option maxRecDepth 100000 in
set_option maxHeartbeats 1000000 in
theorem vclone_is (w : World) (A : Option Addr) (c : Nat) (V : List Vd) (hV : VdsAt w A V) (ok : keysOk V) (h0 : 1 ≤ V.length) (hl : V.length < 1000) :
    Calls Tryd.prog 28 #[.slice A V.length c] w fun e w' => ∃ (A' : Option Addr) (c' : Nat), e = .returned (.slice A' V.length c') ∧ VdsAt w' A' V ∧ V.length ≤ c' ∧ (∀ a, A' = some a → w.heap.size ≤ a.block) ∧ w.grownBy w' none := by
  obtain ⟨i0, hi, hz0, hz1, hz2⟩ := info_parts vd_info
  have hq : ∀ (w : World) (a : Option Addr) (n c n' c' : Nat), (binOp .eql 22 (.slice a n c) (.slice none n' c')).run Tryd.prog w = .ok (.bool a.isNone) w := fun w a n c n' c' => Lib.run_eql_slice_nil w _ _ a n c n' c' Tryd.underlying22
  obtain ⟨b, off, rfl, hat⟩ := hV (by rintro rfl; simp at h0)
  obtain ⟨n, hn⟩ : ∃ n, V.length = n := ⟨_, rfl⟩
  obtain ⟨L, hL⟩ : ∃ L, L = V.flatMap Vd.cells := ⟨_, rfl⟩
  have hg := World.grownBy_alloc w (.cells #[] 61) none
  have hcells : ∀ j u, L[j]? = some u → (w.alloc (.cells #[] 61)).cell? ((⟨b, off, none⟩ : Addr).add j) = some u := fun j u hu => by
    rw [Go.WideShapes.add_plain]
    rw [hL] at hu
    exact hg.cell (flat_cells_at V off ok hat j u hu) (by simp)
  have HC := Lib.hid (And.intro hcells (And.intro (show ∀ u ∈ L, u.oneCell' = true by rw [hL]; exact flat_one) (And.intro (show L.length = n * 17 by rw [hL, flat_len ok, hn]) (And.intro hL (And.intro hn ok)))))
  rw [hn] at h0 hl ⊢
  clear hcells hL hat hV ok hn
  go_enter Tryd.func28, Tryd.ntmps28
  go_wp2_with (at_builtin; refine wpList_append_own _ rfl _ _ 22 rfl w.heap.size 61 i0 _ 17 24 Tryd.underlying22 hi hz0 hz1 hz2 rfl (by omega) _ _ _ rfl (World.ownsRow_made w #[] 0 (Nat.le_refl _) (Nat.zero_le _) rfl) ⟨b, off, none⟩ n c L rfl HC.out.2.2.1 HC.out.1 HC.out.2.1 (by simp only [maxLen]; omega) (by omega) (by simp) ?_; intro v' w1 hown hgrow _; obtain ⟨A', cap', rfl⟩ := own_slice w1 hown)
  rw [Nat.zero_add, List.nil_append] at hown
  have HO := Lib.hid (And.intro hown hgrow)
  clear hown hgrow
  go_wp2
  go_ret
  obtain ⟨_, _, _, hL, hn, ok⟩ := HC.out
  have h1 := HO.out.1
  rw [hL] at h1
  obtain ⟨A5, c5, e5, hc5, hv5, hb5⟩ := own_vds ok h1
  injection e5 with e1 e2 e3
  subst e1 e3
  exact ⟨A', cap', rfl, hv5, by omega, hb5, grown_new HO.out.2⟩
end Go.Proofs.YthcilpfcdblmkaaDoor
