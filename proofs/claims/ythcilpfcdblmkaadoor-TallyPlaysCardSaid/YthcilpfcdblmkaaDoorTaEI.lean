/-
  Tally, keys of type int: Len.
-/
import Derived.Test.YthcilpfcdblmkaaDoorTaBI
import Derived.Test.YthcilpfcdblmkaaDoorTaH
namespace Go.Proofs.YthcilpfcdblmkaaDoor
open Go.RowKit Go.Shelf

attribute [local go_sem] Oper.semAt_some

def CntI (r0 : Nat) (w0 : World) (n : Nat) (W : World) : Prop := Kept (fun j => r0 ≤ j) w0 W ∧ Blk W r0 3 #[.int .i64 (n : Int)]
theorem cnt_own {β : Type} {r0 : Nat} {w0 : World} (f : β → Nat) {B : Nat} (hB : r0 ≤ B) : OwnFrom B (fun s W => CntI r0 w0 (f s) W) := fun s W W' row hs hg hr => by
  have same := cells_same hg (fun r e => (hr r e).2)
  exact ⟨hs.1.next (Kept.of_grown (F := fun j => r0 ≤ j) hg (fun r e => by have := (hr r e).1; omega)) (fun _ _ h => h), same _ _ hs.2 rfl⟩

set_option maxRecDepth 100000 in
set_option maxHeartbeats 4000000 in
theorem lenI_is (w : World) (t b n : Nat) (W0 : List (Wd Int)) (hn : W0.length = n) (hnb : n ≤ 1000) (hc : w.cell? ⟨t, 1, none⟩ = some (.slice (some ⟨b, 0, none⟩) n n)) (hW : WdsI w b W0) :
    Calls Tryd.prog 13 #[.pointer (some ⟨t, 0, none⟩)] w fun e w' => e = .returned (.int .i64 ((toldL W0).length : Int)) ∧ w.grownBy w' none := by
  have HN := Lib.hid (And.intro hn (And.intro hnb (And.intro hc hW)))
  clear hn hnb hc hW
  refine (callsIn_wide (n := 6)).1 ?_
  refine callsIn_of_wp_marks Tryd.func13 rfl trivial ?_ rfl
  simp only [Tryd.ntmps13, List.size_toArray, List.length_cons, List.length_nil, Nat.reduceAdd, Nat.reduceSub, Array.replicate_succ, Array.replicate_zero, List.push_toArray, List.append_toArray, List.nil_append, List.cons_append]
  gi_wp2
  refine ⟨trivial, ?_⟩
  refine (toldI_in _ _ _ _ rfl).mono ?_
  rintro e w1 ⟨rfl, rfl⟩
  gi_wp2
  obtain ⟨U, hU⟩ : ∃ U, (w.alloc (.cells #[.int .i64 0] 3)).alloc (.cells #[.pointer (some ⟨t, 0, none⟩)] 25) = U := ⟨_, rfl⟩
  have g3 : w.grownBy U none := by rw [← hU]; exact grown_trans (World.grownBy_alloc _ _ none) (World.grownBy_alloc _ _ none)
  have z3 : U.heap.size = w.heap.size + 2 := by rw [← hU]; simp
  have bk : Blk U w.heap.size 3 #[.int .i64 0] := by rw [← hU]; exact (Blk.new w _ _).alloc _
  have bt : Blk U (w.heap.size + 1) 25 #[.pointer (some ⟨t, 0, none⟩)] := by
    have h := Blk.new (w.alloc (.cells #[.int .i64 0] 3)) 25 #[.pointer (some ⟨t, 0, none⟩)]
    rw [World.size_alloc, hU] at h
    exact h
  rw [hU]
  clear hU
  have hst : CntI w.heap.size U 0 U := ⟨Kept.refl _ _, bk⟩
  have htl : t < w.heap.size := World.block_lt_of_cell? w _ HN.out.2.2.1
  have hbl : b < w.heap.size := HN.out.2.2.2.lt
  have HU := Lib.hid (And.intro g3 (And.intro z3 (And.intro htl hbl)))
  have hcU : U.cell? ⟨t, 1, none⟩ = some (.slice (some ⟨b, 0, none⟩) n n) := g3.cell HN.out.2.2.1 (by simp)
  have hWU : WdsI U b W0 := HN.out.2.2.2.grown g3 (by simp)
  refine wpIn_rangeFunc_told rfl (by omega) (gf := 42) (lb := #[.pointer (some ⟨w.heap.size + 1, 0, none⟩)]) rfl trivial (enters_of Tryd.func42 (by kernel_rfl) rfl)
    (toldI_seq 5 (by omega) (w.heap.size + 1) t b n W0 HN.out.1 HN.out.2.1 U (by omega) hcU hWU bt) (fun h1 h2 => Still.trans h1 h2)
    (fun x W l o o' hl ho hc _ => Still.put ho hc) PhiWI.mono (Below.refl _ _) (fun _ => rfl)
    (fun pre W => CntI w.heap.size U pre.length W)
    (fun _ _ _ => False)
    (cnt_own (fun pre : List (Nat × Wd Int) => pre.length) (Nat.le_trans (by omega) (Nat.le_refl U.heap.size)))
    (fun _ s W W' row h _ _ => h)
    hst
    (fun pre x a' W => a' = { tmps := #[.pointer (some ⟨t, 0, none⟩), undef, .int .i64 0, .pointer (some ⟨w.heap.size, 0, none⟩), .pointer (some ⟨t, 0, none⟩), .func (.func 42) #[] #[.pointer (some ⟨w.heap.size + 1, 0, none⟩)], .int .i64 (x.1 : Int), .agg #[.bool x.2.said, (.int .i64 x.2.key), .int .i64 x.2.thing], undef, undef, undef], defers := [] } ∧ PhiPI W0 pre x)
    (fun pre x a' => ownFrom_pure _) ?assign ?body ?done ?stop
  case assign =>
    rintro l pre x W K hI hphi hK
    have HK := Lib.hid (hK _ W ((keeps_grown (World.grownBy.refl W none)).from _) (Still.refl _ _ _) hI ⟨rfl, hphi⟩)
    clear hK hI hphi
    simp only [wdEI]
    gi_wp2
    simpa using HK.out
  case stop => rintro Dd c' pre W _ _ h; exact h.elim
  case body =>
    rintro l pre x a' W hl0 hl1 hI ⟨rfl, hphi⟩
    have hpl : pre.length ≤ 1000 := by
      obtain ⟨k, hk, hpre, _⟩ := hphi
      have := toldK_length_le W0 k
      have := HN.out.1
      have := HN.out.2.1
      rw [hpre]; omega
    obtain ⟨h1, h2⟩ := hI
    obtain ⟨m, hm⟩ : ∃ m, pre.length = m := ⟨_, rfl⟩
    rw [hm] at h2 hpl
    have hs := h2.set 0 (.int .i64 ((m : Int) + 1))
    have c0 := h2.cell 0
    have f0 := h2.frozen 0
    simp only [List.getElem?_toArray, List.getElem?_cons_zero] at c0
    have KS : Kept (fun j => w.heap.size ≤ j) W (W.setCell ⟨w.heap.size, 0, none⟩ (.int .i64 ((m : Int) + 1))) := (Kept.refl (fun j => w.heap.size ≤ j) W).set (p := ⟨w.heap.size, 0, none⟩) (.inl (Nat.le_refl _)) _
    have HB := Lib.hid (And.intro h1 (And.intro hm (And.intro hs KS)))
    clear h1 h2 hm hs KS hphi
    gi_wp2
    refine ⟨(KeepsOthers.setCell _ _ _).from _, Still.of_kept HB.out.2.2.2 (fun k hk hb => by have hk : w.heap.size ≤ k := hk; have := HU.out.2.2.2; omega), HB.out.1.next HB.out.2.2.2 (fun _ _ h => h), ?_⟩
    have h := HB.out.2.2.1
    rw [List.length_append, HB.out.2.1, List.length_singleton]
    simpa using h
  case done =>
    rintro Dd xs W hD hS hI hK
    subst hS
    obtain ⟨h1, h2⟩ := hI
    have c0 := h2.cell 0
    simp only [List.getElem?_toArray, List.getElem?_cons_zero] at c0
    have HB := Lib.hid (And.intro h1 (And.intro hK hD))
    clear h1 h2 hK hD
    (try dsimp only)
    gi_wp2
    refine ⟨by simp, .inl ⟨_, _, rfl, run_takeDeferred HB.out.2.1, ?_⟩⟩
    obtain ⟨h1, hK, hD⟩ := HB.out
    have hp := Kept.of_grown (F := fun j => j = Dd) (grownBy_putObj' W Dd (.deferred none)) (fun j e => (Option.some.inj e).symm)
    exact ⟨_, results_tmp rfl _ _ _, rfl, (((Kept.of_grown (F := fun j => w.heap.size ≤ j) HU.out.1 fun _ e => by cases e).next h1 (fun k _ h => h)).next hp (fun k _ h => by have h : k = Dd := h; have := HU.out.2.1; show w.heap.size ≤ k; omega)).grownNone (fun k hk (h : w.heap.size ≤ k) => by omega)⟩
end Go.Proofs.YthcilpfcdblmkaaDoor
