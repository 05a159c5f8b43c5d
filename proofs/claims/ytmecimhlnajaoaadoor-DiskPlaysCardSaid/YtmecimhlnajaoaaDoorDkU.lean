/-
  Disk: the places with something written, rising (the library's contracts of maps.Keys, slices.Sorted, slices.Sort, laid at this program).
-/
import Derived.Test.YtmecimhlnajaoaaDoorDkP
import Derived.Shelf.AbstractIn
import Derived.Shelf.SlIterI.Nil
import Derived.Shelf.SortM.Plain
import Derived.Shelf.SortM.SortNone
import Derived.Ground.GgzProg
import Derived.Ground.SlgmProg
import Derived.Test.YtmecimhlnajaoaaDoorGe
namespace Go.Proofs
open Go.RowKit Go.Maps Go.Sort Go.Shelf

shelf_lay_g SlLaysZI.n7 Ggz 7 at Tryd 33 as Tryd.keysDk
shelf_lay_g SlLaysZI.n6 Ggz 6 at Tryd 32 as Tryd.sortedDk
shelf_lay_g SlLaysM.n5 Slgm 5 at Tryd 37 as Tryd.sortDk
end Go.Proofs
namespace Go.Proofs.YtmecimhlnajaoaaDoor
open Go.RowKit Go.Maps Go.Sort Go.Shelf

theorem sortsDk (m : Nat) : AnyZI.SortsIn Tryd.prog Tryd.sortedDk_ren Fence.wide m :=
  ⟨fun blk off cap ss W hH hblk hsz => callsIn_wide.2 (AnyM.slices_Sort_int Tryd.sortDk blk off cap ss W hH hblk hsz),
   fun p cap W => callsIn_wide.2 (AnyM.slices_Sort_int_none Tryd.sortDk p cap W)⟩
theorem keyed_int : Keyed Tryd.prog 3 := int_keyed Tryd.underlying3

set_option maxHeartbeats 1000000 in
theorem unsynced_is (w : World) (d m nn : Nat) (D : DataW Unit) (wr : List (Option (List Int))) (hd : w.cell? ⟨d, 1, none⟩ = some (.map (some m))) (hown : w.ownsMap Tryd.prog 3 (secR 64) m nn D) (hM : MapOf D wr) (hl : wr.length ≤ 5000) :
    Calls Tryd.prog 25 #[.pointer (some ⟨d, 0, none⟩)] w fun e w' => ∃ v, e = .returned v ∧ w'.ownsRow w.heap.size 3 1 v (dirtyL wr).length ((dirtyL wr).map encZ) ∧ (v = .slice none 0 0 ↔ dirtyL wr = []) ∧ Below w.heap.size w w' := by
  refine (callsIn_wide (n := 6)).1 ?_
  have hbl := hown.lt
  have hsz := size_dirty hown keyed_int Tryd.underlying3 hM
  have hmax : Maps.size D ≤ maxLen := by unfold maxLen; omega
  have hbytes : Maps.size D * 8 ≤ 140737488355328 := by omega
  have hseq : SeqGives Fence.wide 2 Tryd.prog 38 #[.pointer (some ⟨w.heap.size, 0, none⟩)] encZ (fun ss => ss.Perm (intKeys D)) (Maps.size D) (w.alloc (.cells #[.map (some m)] 60)) :=
    AnyZI.keys_gives (ρ := Tryd.keysDk_ren) { Tryd.keysDk with } Fence.wide _ trivial rfl (by omega) w.heap.size m nn D _ (by simp) (by simp) (by
      obtain ⟨es, clock, hb, Ft, hs, hD⟩ := hown
      exact ⟨es, clock, (Below.heap_alloc _ _ m hbl).trans hb, Ft, hs, hD⟩)
  have cK : ∀ mb W, CallsIn Fence.wide 5 Tryd.prog 33 #[.map mb] W fun e w' => e = .returned (.func (.func 38) #[] #[.pointer (some ⟨W.heap.size, 0, none⟩)]) ∧ w' = W.alloc (.cells #[.map mb] 60) := fun mb W => AnyZI.keys_in Tryd.keysDk Fence.wide 5 trivial rfl mb W
  have cS := AnyZI.sorted_in Tryd.sortedDk Fence.wide 5 trivial trivial trivial trivial rfl (by omega) (sortsDk _) (enters_of Tryd.func37 (by kernel_rfl) rfl) 38 #[.pointer (some ⟨w.heap.size, 0, none⟩)] trivial (enters_of Tryd.func38 (by kernel_rfl) rfl) _ _ hmax hbytes _ hseq
  change CallsIn _ _ Tryd.prog 32 _ _ _ at cS
  have HM := Lib.hid (And.intro hown hM)
  clear hown hM hsz hmax hbytes hseq
  have hfK : Fence.wide.fn 33 := trivial
  have hfS : Fence.wide.fn 32 := trivial
  refine callsIn_of_wp Tryd.func25 rfl trivial ?_ rfl
  simp only [Tryd.ntmps25, List.size_toArray, List.length_cons, List.length_nil, Nat.reduceAdd, Nat.reduceSub, Array.replicate_succ, Array.replicate_zero, List.push_toArray, List.append_toArray, List.nil_append, List.cons_append]
  gi_wp2_with (first
    | (gi_at_call 33; refine (cK _ _).mono ?_; rintro e w' ⟨rfl, rfl⟩)
    | (gi_at_call 32; refine cS.mono ?_; rintro e w' ⟨v, ss, rfl, hS, hrow, hnil, hb⟩))
  go_ret
  have hk := keys_dirty HM.out.1 keyed_int Tryd.underlying3 HM.out.2 hS
  have hlen : ss.length = (dirtyL wr).length := by rw [← hk, List.length_mergeSort]
  rw [hk, hlen] at hrow
  refine ⟨v, rfl, ownsRow_base_a hrow (by simp), ?_, ((Below.refl _ w).alloc (Nat.le_refl _) _).trans (hb.mono (by simp))⟩
  rw [hnil]
  constructor
  · rintro rfl; exact List.length_eq_zero_iff.1 hlen.symm
  · intro h; rw [h] at hlen; exact List.length_eq_zero_iff.1 hlen
end Go.Proofs.YtmecimhlnajaoaaDoor
