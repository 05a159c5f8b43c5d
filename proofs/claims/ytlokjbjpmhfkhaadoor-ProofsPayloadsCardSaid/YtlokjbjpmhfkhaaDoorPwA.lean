/-
  The sums of powers: the makers, add.
-/
import Derived.WalkKit
import Derived.RangeFuncFrom
import Derived.Test.YtlokjbjpmhfkhaaDoorPwS
namespace Go.Proofs.YtlokjbjpmhfkhaaDoor
open Go.RowKit Go.Shelf

attribute [local go_sem] Oper.semAt_some

set_option maxHeartbeats 1000000 in
theorem everyone_is (x : Value) (A : Option Addr) (n c : Nat) (w : World) (hx : x = .slice A n c) :
    Calls Tryd.prog 70 #[x] w fun e w' => e = .returned (.func (.func 76) #[] #[.pointer (some ⟨w.heap.size, 0, none⟩)]) ∧
      w' = w.alloc (.cells #[x] 22) := by
  subst hx
  go_enter Tryd.func70, Tryd.ntmps70
  go_wp2_with fail
  go_ret
  exact ⟨rfl, rfl⟩

set_option maxHeartbeats 1000000 in
theorem those_is (A A2 : Option Addr) (n c n2 c2 : Nat) (w : World) :
    Calls Tryd.prog 57 #[.slice A n c, .slice A2 n2 c2] w fun e w' => e = .returned (.func (.func 69) #[] #[.pointer (some ⟨w.heap.size + 1, 0, none⟩), .pointer (some ⟨w.heap.size, 0, none⟩)]) ∧
      w' = (w.alloc (.cells #[.slice A n c] 22)).alloc (.cells #[.slice A2 n2 c2] 48) := by
  go_enter Tryd.func57, Tryd.ntmps57
  go_wp2_with fail
  go_ret
  exact ⟨rfl, rfl⟩

/-- everyone(v) as an iterator. -/
theorem everyone_stops (m n₀ : Nat) (hm : 1 ≤ m) (A : Option Addr) (c : Nat) (V : List Vd) (ok : keysOk V) (hl : V.length < 1000) (w : World) (hV : VdsAt w A V) (hA : ∀ a, A = some a → V ≠ [] → a.block < n₀) (hn : n₀ ≤ w.heap.size) (B : Nat) (hB : B < n₀) (h1 : w.cell? ⟨B, 0, none⟩ = some (.slice A V.length c)) :
    SeqStopsK Fence.wide m Tryd.prog 76 #[.pointer (some ⟨B, 0, none⟩)] (fun x : Int => #[.int .i64 x]) (Below n₀) (fun ys => ys = V.map Vd.p) (fun _ => True) V.length w := fun l J Jx W hW hJ _ hY h0 =>
  every1_in m l B n₀ A c V ok hl J Jx hm W hJ hY hB (Nat.le_trans hn hW.size) ((hW.cell (p := ⟨B, 0, none⟩) (by dsimp only; omega)).trans h1)
    (fun hne => by obtain ⟨b, off, rfl, hc⟩ := hV hne; exact ⟨b, off, rfl, fun k hk => range_below (hc k hk) hW (by have := hA _ rfl hne; dsimp only at this; omega)⟩) hA h0

theorem ints_below {n : Nat} {w w' : World} {A : Option Addr} {l : List Int} (h : IntsAt w A l) (hk : Below n w w') (hA : ∀ a, A = some a → l ≠ [] → a.block < n) : IntsAt w' A l := fun hl => by
  obtain ⟨ad, rfl, hc⟩ := h hl
  exact ⟨ad, rfl, fun j hj => (hk.cell (by rw [block_add]; exact hA ad rfl hl)).trans (hc j hj)⟩
theorem those_stops (m n₀ : Nat) (hm : 1 ≤ m) (A A2 : Option Addr) (c c2 : Nat) (V : List Vd) (who : List Int) (ok : keysOk V) (hl : V.length < 1000) (hw : who.length < 1000) (hin : ∀ i ∈ who, 0 ≤ i ∧ i < V.length) (w : World) (hV : VdsAt w A V) (hA : ∀ a, A = some a → V ≠ [] → a.block < n₀) (hU : IntsAt w A2 who) (hA2 : ∀ a, A2 = some a → who ≠ [] → a.block < n₀) (hn : n₀ ≤ w.heap.size) (B1 B2 : Nat) (hB1 : B1 < n₀) (hB2 : B2 < n₀) (h1 : w.cell? ⟨B1, 0, none⟩ = some (.slice A2 who.length c2)) (h2 : w.cell? ⟨B2, 0, none⟩ = some (.slice A V.length c)) :
    SeqStopsK Fence.wide m Tryd.prog 69 #[.pointer (some ⟨B1, 0, none⟩), .pointer (some ⟨B2, 0, none⟩)] (fun x : Int => #[.int .i64 x]) (Below n₀) (fun ys => ys = powersAt V who) (fun _ => True) who.length w := fun l J Jx W hW hJ _ hY h0 =>
  those1_in m l B1 B2 n₀ A A2 c c2 V who ok hl hw hin J Jx hm W hY hB2 (Nat.le_trans hn hW.size) ((hW.cell (p := ⟨B1, 0, none⟩) (by dsimp only; omega)).trans h1) ((hW.cell (p := ⟨B2, 0, none⟩) (by dsimp only; omega)).trans h2)
    (fun hne => by obtain ⟨b, off, rfl, hc⟩ := hV hne; exact ⟨b, off, rfl, fun k hk => range_below (hc k hk) hW (by have := hA _ rfl hne; dsimp only at this; omega)⟩) hA
    (ints_below hU hW (fun a ha hne => by have := hA2 a ha hne; omega)) hA2 h0

/-- A sum, as Go adds. -/
def sumW (zs : List Int) : Int := zs.foldl (fun s x => wrap64 (s + x)) 0
theorem sumW_snoc (zs : List Int) (x : Int) : sumW (zs ++ [x]) = wrap64 (sumW zs + x) := by simp [sumW]

set_option maxRecDepth 100000 in
set_option maxHeartbeats 2000000 in
theorem add_is (w : World) (gf : Nat) (lb : Array Value) (eg : ∀ args w, (callFunc gf args).run Tryd.prog w = .ok (.enter gf args) w) (zs : List Int) (N : Nat)
    (hS : SeqStopsK Fence.wide 4 Tryd.prog gf lb (fun x : Int => #[.int .i64 x]) (Below w.heap.size) (fun ys => ys = zs) (fun _ => True) N (w.alloc (.cells #[.int .i64 0] 3))) :
    Calls Tryd.prog 56 #[.func (.func gf) #[] lb] w fun e w' => e = .returned (.int .i64 (sumW zs)) ∧ Below w.heap.size w w' := by
  refine (callsIn_wide (n := 5)).1 ?_
  refine callsIn_of_wp_marks Tryd.func56 rfl trivial ?_ rfl
  simp only [Tryd.ntmps56, List.size_toArray, List.length_cons, List.length_nil, Nat.reduceAdd, Nat.reduceSub, Array.replicate_succ, Array.replicate_zero, List.push_toArray, List.append_toArray, List.nil_append, List.cons_append]
  gi_wp2
  have b0 := Boxed.new w 3 (.int .i64 0)
  have hBl := (Below.refl w.heap.size w).alloc (Nat.le_refl _) (.cells #[.int .i64 0] 3)
  obtain ⟨W0, hW0⟩ : ∃ W0, w.alloc (.cells #[.int .i64 0] 3) = W0 := ⟨_, rfl⟩
  have hsz : W0.heap.size = w.heap.size + 1 := by rw [← hW0]; simp
  rw [hW0] at hBl b0 hS ⊢
  clear hW0
  refine wpIn_rangeFunc_ownF rfl (by omega) (gf := gf) (lb := lb) rfl trivial eg hS (fun h1 h2 => belowK_t h1 h2) (belowK_b (by omega)) (Below.refl _ _) (fun _ => rfl)
    (fun pre W => (W.cell? ⟨w.heap.size, 0, none⟩ = some (.int .i64 (sumW pre)) ∧ W.frozen? ⟨w.heap.size, 0, none⟩ = false) ∧ Below w.heap.size w W)
    (fun _ _ _ => False)
    (OwnFrom.and (Own.from (fun s A B row hs hg hr => ⟨cell_kept hs.1 hg hr, (frozen_kept hs.1 hg hr).trans hs.2⟩) _) (ownFrom_below (Nat.le_refl _) (by omega)))
    (fun _ _ _ _ _ hs _ _ => hs)
    ⟨⟨b0.cell, b0.frozen⟩, hBl⟩
    (fun x => { tmps := #[.func (.func gf) #[] lb, undef, .int .i64 0, .pointer (some ⟨w.heap.size, 0, none⟩), .int .i64 x, .func (.func gf) #[] lb, .int .i64 x, undef, undef, undef, undef], defers := [] }) ?assign ?body ?done ?stop
  case assign =>
    intro l x W K hK
    gi_wp2
    exact hK
  case body =>
    rintro l pre x W ⟨⟨hc, hf⟩, hbl⟩ _
    gi_wp2
    exact ⟨KeepsOthers.setCell _ _ _, (Below.refl w.heap.size W).setCell (p := ⟨w.heap.size, 0, none⟩) (Nat.le_refl _) _, ⟨by rw [sumW_snoc]; exact World.cell?_setCell_same' _ _ _ (by rw [hc]; rfl), by rw [World.frozen?_setCell]; exact hf⟩, hbl.setCell (p := ⟨w.heap.size, 0, none⟩) (Nat.le_refl _) _⟩
  case done =>
    rintro D ys W hD rfl ⟨⟨hc, _⟩, hbl⟩ hK
    gi_wp2
    refine ⟨by simp, .inl ⟨_, _, rfl, run_takeDeferred hK, ?_⟩⟩
    exact ⟨_, results_tmp rfl _ _ _, rfl, hbl.trans (belowK_b (w := w) (Nat.le_refl _) W D _ _ (by omega) hK rfl rfl)⟩
  case stop =>
    rintro D c pre W _ _ h _
    exact h.elim
end Go.Proofs.YtlokjbjpmhfkhaaDoor
