/-
  Several texts in one: DkU, Bl, ArgBl, DkZ, DkN, DkD.
-/
import Derived.Test.YthkjlgjbjjjohaaGreatDoorDkG1
import Derived.Shelf.AbstractIn
import Derived.Shelf.SlIterI.Nil
import Derived.Shelf.SortM.Plain
import Derived.Shelf.SortM.SortNone
import Derived.Ground.GgzProg
import Derived.Ground.SlgmProg
import Derived.Test.YthkjlgjbjjjohaaGreatDoorGeA
import Derived.Test.YthkjlgjbjjjohaaGreatDoorBaseA
import Derived.Test.YthkjlgjbjjjohaaGreatDoorArgA
import Derived.Test.YthkjlgjbjjjohaaGreatDoorWireB
import Derived.Laws.MakeOwn
/-
  Disk: the places with something written, rising (the library's contracts of maps.Keys, slices.Sorted, slices.Sort, laid at this program).
-/
namespace Go.Proofs
open Go.RowKit Go.Maps Go.Sort Go.Shelf

shelf_lay_g SlLaysZI.n7 Ggz 7 at Tryz 96 as Tryz.keysDk
shelf_lay_g SlLaysZI.n6 Ggz 6 at Tryz 95 as Tryz.sortedDk
shelf_lay_g SlLaysM.n5 Slgm 5 at Tryz 123 as Tryz.sortDk
end Go.Proofs
namespace Go.Proofs.YthkjlgjbjjjohaaGreatDoor
open Go.RowKit Go.Maps Go.Sort Go.Shelf

theorem sortsDk (m : Nat) : AnyZI.SortsIn Tryz.prog Tryz.sortedDk_ren Fence.wide m :=
  ⟨fun blk off cap ss W hH hblk hsz => callsIn_wide.2 (AnyM.slices_Sort_int Tryz.sortDk blk off cap ss W hH hblk hsz),
   fun p cap W => callsIn_wide.2 (AnyM.slices_Sort_int_none Tryz.sortDk p cap W)⟩
theorem keyed_int : Keyed Tryz.prog 3 := int_keyed Tryz.underlying3

set_option maxHeartbeats 1000000 in
theorem unsynced_is (w : World) (d m nn : Nat) (D : DataW Unit) (wr : List (Option (List Int))) (hd : w.cell? ⟨d, 1, none⟩ = some (.map (some m))) (hown : w.ownsMap Tryz.prog 3 (secR 64) m nn D) (hM : MapOf D wr) (hl : wr.length ≤ 5000) :
    Calls Tryz.prog 56 #[.pointer (some ⟨d, 0, none⟩)] w fun e w' => ∃ v, e = .returned v ∧ w'.ownsRow w.heap.size 3 1 v (dirtyL wr).length ((dirtyL wr).map encZ) ∧ (v = .slice none 0 0 ↔ dirtyL wr = []) ∧ Below w.heap.size w w' := by
  refine (callsIn_wide (n := 6)).1 ?_
  have hbl := hown.lt
  have hsz := size_dirty hown keyed_int Tryz.underlying3 hM
  have hmax : Maps.size D ≤ maxLen := by unfold maxLen; omega
  have hbytes : Maps.size D * 8 ≤ 140737488355328 := by omega
  have hseq : SeqGives Fence.wide 2 Tryz.prog 124 #[.pointer (some ⟨w.heap.size, 0, none⟩)] encZ (fun ss => ss.Perm (intKeys D)) (Maps.size D) (w.alloc (.cells #[.map (some m)] 85)) :=
    AnyZI.keys_gives (ρ := Tryz.keysDk_ren) { Tryz.keysDk with } Fence.wide _ trivial rfl (by omega) w.heap.size m nn D _ (by simp) (by simp) (by
      obtain ⟨es, clock, hb, Ft, hs, hD⟩ := hown
      exact ⟨es, clock, (Below.heap_alloc _ _ m hbl).trans hb, Ft, hs, hD⟩)
  have cK : ∀ mb W, CallsIn Fence.wide 5 Tryz.prog 96 #[.map mb] W fun e w' => e = .returned (.func (.func 124) #[] #[.pointer (some ⟨W.heap.size, 0, none⟩)]) ∧ w' = W.alloc (.cells #[.map mb] 85) := fun mb W => AnyZI.keys_in Tryz.keysDk Fence.wide 5 trivial rfl mb W
  have cS := AnyZI.sorted_in Tryz.sortedDk Fence.wide 5 trivial trivial trivial trivial rfl (by omega) (sortsDk _) (enters_of Tryz.func123 (by kernel_rfl) rfl) 124 #[.pointer (some ⟨w.heap.size, 0, none⟩)] trivial (enters_of Tryz.func124 (by kernel_rfl) rfl) _ _ hmax hbytes _ hseq
  change CallsIn _ _ Tryz.prog 95 _ _ _ at cS
  have HM := Lib.hid (And.intro hown hM)
  clear hown hM hsz hmax hbytes hseq
  have hfK : Fence.wide.fn 96 := trivial
  have hfS : Fence.wide.fn 95 := trivial
  refine callsIn_of_wp Tryz.func56 rfl trivial ?_ rfl
  simp only [Tryz.ntmps56, List.size_toArray, List.length_cons, List.length_nil, Nat.reduceAdd, Nat.reduceSub, Array.replicate_succ, Array.replicate_zero, List.push_toArray, List.append_toArray, List.nil_append, List.cons_append]
  gi_wp2_with (first
    | (gi_at_call 96; refine (cK _ _).mono ?_; rintro e w' ⟨rfl, rfl⟩)
    | (gi_at_call 95; refine cS.mono ?_; rintro e w' ⟨v, ss, rfl, hS, hrow, hnil, hb⟩))
  go_ret
  have hk := keys_dirty HM.out.1 keyed_int Tryz.underlying3 HM.out.2 hS
  have hlen : ss.length = (dirtyL wr).length := by rw [← hk, List.length_mergeSort]
  rw [hk, hlen] at hrow
  refine ⟨v, rfl, ownsRow_base_a hrow (by simp), ?_, ((Below.refl _ w).alloc (Nat.le_refl _) _).trans (hb.mono (by simp))⟩
  rw [hnil]
  constructor
  · rintro rfl; exact List.length_eq_zero_iff.1 hlen.symm
  · intro h; rw [h] at hlen; exact List.length_eq_zero_iff.1 hlen
end Go.Proofs.YthkjlgjbjjjohaaGreatDoor
/-
  A list of booleans in memory.
-/

namespace Go.Proofs.YthkjlgjbjjjohaaGreatDoor
open Go.RowKit

/-- The booleans l lie at A. -/
def BoolsAt (w : World) (A : Option Addr) (l : List Bool) : Prop :=
  l ≠ [] → ∃ b off, A = some ⟨b, off, none⟩ ∧ ∀ j (h : j < l.length), w.cell? ⟨b, off + j, none⟩ = some (.bool l[j])
theorem BoolsAt.nil (w : World) (A : Option Addr) : BoolsAt w A [] := fun h => absurd rfl h
theorem BoolsAt.kept {F : Nat → Prop} {w w' : World} {A : Option Addr} {l : List Bool} (h : BoolsAt w A l) (hk : Kept F w w') (hA : ∀ a, A = some a → l ≠ [] → ¬ F a.block) : BoolsAt w' A l := fun hl => by
  obtain ⟨b, off, rfl, hc⟩ := h hl
  exact ⟨b, off, rfl, fun j hj => hk.cell (hc j hj) (hA ⟨b, off, none⟩ rfl hl)⟩
theorem BoolsAt.grown {w w' : World} {A : Option Addr} {l : List Bool} (h : BoolsAt w A l) (hg : w.grownBy w' none) : BoolsAt w' A l :=
  h.kept (Kept.of_grown (F := fun _ => False) hg fun _ e => by cases e) (fun _ _ _ h => h)
end Go.Proofs.YthkjlgjbjjjohaaGreatDoor
/-
  An argument opened: a slice of booleans, as a list.
-/
namespace Go.Proofs.YthkjlgjbjjjohaaGreatDoor
open Go.ChangeShapes Go.WideShapes Go.ChangeAt Go.RowKit

section
variable {H : Type} {enc : TypeId × Value → H} {w : World} {base : Nat} {spare : Nat → Bool} {held : Bool} {fuel : Nat} {cs : List Value} {x : DataW H × List MemPlace}
theorem cellsBool : Tryz.prog.cellsOf 4 = 1 := by kernel_rfl
theorem open_bls (h : DataW.trod enc Tryz.prog w base spare held fuel 31 cs = some x) :
    ∃ A n c, ∃ zs : List Bool, cs = [.slice A n c] ∧ zs.length = n ∧ n ≤ c ∧ BoolsAt w A zs := by
  obtain ⟨A, n, c, zs, hcs, hn, hc, hat⟩ := open_elems Tryz.underlying31 cellsBool (fun z es => es = [Value.bool z]) false (fun h => by obtain ⟨b, h1, _⟩ := DataW.trod_bool Tryz.underlying4 h; exact ⟨b, h1⟩) h
  refine ⟨A, n, c, zs, hcs, hn, hc, fun hne => ?_⟩
  obtain ⟨ad, eA, hat2⟩ := hat hne
  obtain ⟨b, off, rfl⟩ : ∃ b off, ad = ⟨b, off, none⟩ := by
    obtain ⟨es, rfl, _, hcell⟩ := hat2 0 (List.length_pos_iff.2 hne)
    have := hcell 0 (by omega)
    rw [Nat.zero_mul, Nat.zero_add] at this
    exact addr_form this rfl
  refine ⟨b, off, eA, fun k hk => ?_⟩
  obtain ⟨es, rfl, h3, hcell⟩ := hat2 k hk
  have := hcell 0 (by omega)
  rw [Go.WideShapes.add_plain, Nat.mul_one, Nat.add_zero] at this
  exact this
set_option maxRecDepth 100000 in
theorem arg_bls {v : Value} {d : DataW H} {p : List MemPlace} {b0 : Nat} (hv : Value.okWide Tryz.prog w .any b0 31 v) (h : DataW.Trod enc Tryz.prog w base spare held 31 v d p) :
    ∃ A n c, ∃ l : List Bool, v = .slice A n c ∧ l.length = n ∧ n ≤ c ∧ BoolsAt w A l := by
  obtain ⟨a0, len, cap, rfl⟩ := okWide_slice Tryz.underlying31 hv
  obtain ⟨fuel, hf⟩ := h
  obtain ⟨A, n, c, xs, hcs, hn, hc, hb⟩ := open_bls hf
  have e : Value.slice a0 len cap = .slice A n c := (List.cons.inj (show [Value.slice a0 len cap] = [Value.slice A n c] from hcs)).1
  exact ⟨A, n, c, xs, e, hn, hc, hb⟩
end
theorem BoolsAt.lt {w : World} {A : Option Addr} {l : List Bool} (h : BoolsAt w A l) : ∀ a, A = some a → l ≠ [] → a.block < w.heap.size := fun a e hne => by
  obtain ⟨b, off, e2, hc⟩ := h hne
  rw [e] at e2
  injection e2 with e2
  subst e2
  exact World.block_lt_of_cell? w _ (hc 0 (List.length_pos_iff.2 hne))
theorem BoolsAt.low {w w' : World} {F : Nat → Prop} {A : Option Addr} {l : List Bool} (h : BoolsAt w A l) (hk : Kept F w w') (hF : ∀ k, F k → w.heap.size ≤ k) : BoolsAt w' A l :=
  h.kept hk (fun a e hne hf => by have := h.lt a e hne; have := hF _ hf; omega)
end Go.Proofs.YthkjlgjbjjjohaaGreatDoor
/-
  Disk: Crash.
-/
namespace Go.Proofs.YthkjlgjbjjjohaaGreatDoor
open Go.RowKit Go.Maps

/-- What is kept: place i stands on the list, and keep says so. -/
def keepP (L : List Int) (keep : List Bool) (n : Nat) (i : Nat) : Bool := (List.range n).any fun j => L[j]? == some (i : Int) && keep[j]? == some true
theorem keepP_zero (L : List Int) (keep : List Bool) : keepP L keep 0 = fun _ => false := rfl
theorem keepP_succ (L : List Int) (keep : List Bool) (n i : Nat) : keepP L keep (n + 1) i = (keepP L keep n i || (L[n]? == some (i : Int) && keep[n]? == some true)) := by
  simp [keepP, List.range_succ]
theorem keepP_no {L : List Int} {keep : List Bool} {n : Nat} (h : keep[n]? ≠ some true) : keepP L keep (n + 1) = keepP L keep n := by
  funext i
  rw [keepP_succ]
  simp [h]
theorem keepP_yes {L : List Int} {keep : List Bool} {n k : Nat} (hk : L[n]? = some (k : Int)) (h : keep[n]? = some true) : keepP L keep (n + 1) k = true := by
  rw [keepP_succ]; simp [hk, h]
theorem keepP_other {L : List Int} {keep : List Bool} {n k i : Nat} (hk : L[n]? = some (k : Int)) (hi : i ≠ k) : keepP L keep (n + 1) i = keepP L keep n i := by
  rw [keepP_succ, hk]
  have : ¬ ((k : Int) = (i : Int)) := by omega
  simp [this]
def crashS (z : DkS) (keep : List Bool) : DkS := { syn := mgS z.syn z.wr (keepP (dirtyL z.wr) keep (dirtyL z.wr).length), wr := List.replicate z.wr.length none, off := false, lasts := -1 }
theorem dirty_at {wr : List (Option (List Int))} {j : Nat} (hj : j < (dirtyL wr).length) : ∃ k r, (dirtyL wr)[j] = ((k : Nat) : Int) ∧ k < wr.length ∧ wr[k]? = some (some r) := by
  obtain ⟨k, hk, e, hs⟩ := mem_dirtyL.1 (List.getElem_mem hj)
  obtain ⟨r, hr⟩ := Option.isSome_iff_exists.1 hs
  exact ⟨k, r, e, hk, by rw [List.getElem?_eq_getElem hk, hr]⟩
theorem dk_look {Y : World} {m nn : Nat} {D : DataW Unit} {wr : List (Option (List Int))} (h : Y.ownsMap Tryz.prog 3 (secR 64) m nn D) (hM : MapOf D wr) {k : Nat} {r : List Int} (hk : wr[k]? = some (some r)) (hr : (k : Int) < 9223372036854775808) :
    (Instr.lookup 85 (.map (some m)) (.int .i64 (k : Int)) false).run Tryz.prog Y = .ok (secV r) Y ∧ r.length = 64 := by
  obtain ⟨hkl, hkr⟩ := List.getElem?_eq_some_iff.1 hk
  obtain ⟨v, ps, hrun, hv⟩ := h.lookup keyed_i Tryz.underlying85 (zero_sec Y (by kernel_rfl : (Tryz.prog.info? 105).bind (·.zero) = some (secV zeroR))) (secR_mk (by simp [zeroR])) (keyOf_int_mk Tryz.underlying3 (show (Lit.int .i64 (k : Int)).wf = true from WalkArith.wf_i64 (by omega)))
  obtain ⟨r', hr', cs, rfl, hcs, _, _, he⟩ := sec_val hv
  rw [((hM.2.2 k hkl).2 r hkr).2] at he
  obtain rfl : r = r' := secD_inj he
  exact ⟨by rw [hrun, secV, hcs], hr'⟩
set_option maxRecDepth 100000 in
set_option maxHeartbeats 1000000 in
theorem dk_crash (w : World) (d b m : Nat) (z : DkS) (h : DkIs w d b m z) (A : Option Addr) (n c : Nat) (keep : List Bool) (hkn : keep.length = n) (hk : BoolsAt w A keep) (hka : ∀ a, A = some a → keep ≠ [] → a.block ≠ b) :
    Calls Tryz.prog 29 #[.pointer (some ⟨d, 0, none⟩), .slice A n c] w fun e w' => e = .returned (.tuple #[]) ∧ DkIs w' d b m (crashS z keep) ∧ Kept (fun j => j = d ∨ j = b ∨ j = m) w w' := by
  obtain ⟨D, hown, hM⟩ := h.2.2.1
  have hU := unsynced_is w d m 5000 D z.wr (h.1.cell 1) hown hM (by have := h.2.2.2.1; have := h.2.2.2.2.2.1; omega)
  obtain ⟨L, hL⟩ : ∃ L, dirtyL z.wr = L := ⟨_, rfl⟩
  rw [hL] at hU
  have HU := Lib.hid hU
  have H0 := Lib.hid (And.intro h (And.intro hkn (And.intro hk (And.intro hka (And.intro hown (And.intro hM hL))))))
  clear h hkn hk hka hown hM hL hU
  refine (callsIn_wide (n := 9)).1 ?_
  refine callsIn_of_wp Tryz.func29 rfl trivial ?_ rfl
  simp only [Tryz.ntmps29, List.size_toArray, List.length_cons, List.length_nil, Nat.reduceAdd, Nat.reduceSub, Array.replicate_succ, Array.replicate_zero, List.push_toArray, List.append_toArray, List.nil_append, List.cons_append]
  gi_wp2
  refine ⟨trivial, ?_⟩
  refine (callsIn_wide.2 HU.out).mono ?_
  rintro e w1 ⟨v, rfl, hrow, hnil, hb1⟩
  obtain ⟨A2, c2, rfl, hc2, hints⟩ := own_ints hrow
  obtain ⟨N, hN⟩ : ∃ N, L.length = N := ⟨_, rfl⟩
  rw [hN]
  have g1 : w.grownBy w1 none := grown_below0 hb1
  have hL4 : N ≤ 4096 := by rw [← hN, ← H0.out.2.2.2.2.2.2]; have := dirtyL_length_le z.wr; have := H0.out.1.2.2.2.1; have := H0.out.1.2.2.2.2.2.1; omega
  have H1 := Lib.hid (And.intro g1 (And.intro hints (And.intro hN (H0.out.1.grown g1))))
  have HROW := Lib.hid hrow
  clear hrow hnil hb1 hints hN g1 hc2
  gi_wp2
  gi_loopw [9] (fun i wr => ∃ k : Nat, k ≤ N ∧ i = .int .i64 (k : Int) ∧ ∃ S, S = mgS z.syn z.wr (keepP L keep k) ∧ (∀ r ∈ S, r.length = 64) ∧ Blk wr b 105 (rowsC S).toArray ∧ Kept (fun j => j = b) w1 wr) (fun i _ => N - (intOf i).toNat)
  case atStart =>
    refine ⟨0, by omega, rfl, z.syn, ?_, H0.out.1.2.2.2.2.1, H1.out.2.2.2.2.1, Kept.refl _ _⟩
    rw [keepP_zero]
    exact (mgS_none fun _ _ => rfl).symm
  case round =>
    obtain ⟨k, hkN, rfl, S, hS, hS64, hbS, hkx⟩ := hrel
    rename World => wx
    by_cases hlt : k < N
    · have hLne : L ≠ [] := by rintro rfl; have := H1.out.2.2.1; simp at this; omega
      obtain ⟨bL, oL, rfl, hcL⟩ := IntsAt.get H1.out.2.1 hLne
      have hbl := (HROW.out.lt bL rfl).1
      have hkl : k < L.length := by rw [H1.out.2.2.1]; exact hlt
      obtain ⟨pk, rk, hpk0, hpl, hwk⟩ := dirty_at (wr := z.wr) (j := k) (by rw [H0.out.2.2.2.2.2.2]; exact hkl)
      have hpk : L[k]? = some (pk : Int) := by rw [← hpk0, ← List.getElem?_eq_getElem (l := dirtyL z.wr) (i := k) (by rw [H0.out.2.2.2.2.2.2]; exact hkl), H0.out.2.2.2.2.2.2]
      have hpn : pk < z.syn.length := by rw [← H0.out.1.2.2.2.1]; exact hpl
      have hsl := H0.out.1.2.2.2.2.2.1
      have hbw := H0.out.1.2.1.lt
      have hne := H0.out.1.2.2.2.2.2.2.2
      have xL := hkx.cell (hcL k hkl) (show ¬ (bL = b) by omega)
      rw [show L[k] = (pk : Int) from Option.some.inj ((List.getElem?_eq_getElem hkl).symm.trans hpk)] at xL
      have hk2 : k < N ∧ N ≤ 4096 := ⟨hlt, hL4⟩
      have hwx : Kept (fun j => j = b) w wx := (Kept.of_grown (F := fun j => j = b) H1.out.1 (fun _ e => by cases e)).next hkx (fun _ _ h => h)
      by_cases hy : keep[k]? = some true
      · have hkk : k < n := by rw [← H0.out.2.1]; exact (List.getElem?_eq_some_iff.1 hy).1
        obtain ⟨bK, oK, rfl, hcK⟩ := H0.out.2.2.1 (by rintro rfl; simp at hy)
        have hkb := H0.out.2.2.2.1 _ rfl (by rintro rfl; simp at hy)
        have xK := hwx.cell (hcK k (by rw [H0.out.2.1]; exact hkk)) (show ¬ (bK = b) from hkb)
        rw [show keep[k]'(by rw [H0.out.2.1]; exact hkk) = true from (List.getElem?_eq_some_iff.1 hy).2] at xK
        have hownx := (H0.out.2.2.2.2.1.kept H1.out.1 (by simp)).kept (row := some b) ⟨hkx.os, hkx.tape, hkx.output, hkx.size, fun j h1 h2 => hkx.block j h1 (fun e => h2 (by rw [e]))⟩ (by intro e; injection e with e; exact hne.2.2 e.symm)
        have hlook := dk_look hownx H0.out.2.2.2.2.2.1 hwk (by omega)
        obtain ⟨cs, hcs⟩ : ∃ cs, (rk.map (Value.int .u8)).toArray = cs := ⟨_, rfl⟩
        have hsec : secV rk = .agg cs := by rw [secV, hcs]
        have hcz : cs.size = 64 := by rw [← hcs]; simpa using hlook.2
        have hc1 : cs.all (·.oneCell') = true := by rw [← hcs]; simp [Array.all_eq_true_iff_forall_mem, Value.oneCell']
        have hSl : S.length = z.syn.length := by rw [hS, mgS_length]
        have hcz2 : cs.toList.length = 64 := by rw [Array.length_toList, hcz]
        have hS1 : Blk (wx.drew.setCells b (pk * 64) cs.toList) b 105 (rowsC (S.set pk rk)).toArray := by
          rw [rowsC_set S hS64 pk (by omega) rk hlook.2]
          have e : rk.map (Value.int .u8) = cs.toList := by rw [← hcs]
          rw [e]
          exact blk_setCells b _ cs.toList (pk * 64) _ _ hbS.drew (by rw [rowsC_len S hS64, hcz2]; omega)
        have hgS : wx.grownBy (wx.drew.setCells b (pk * 64) cs.toList) (some b) := grown_cells b _ _ _ (grown_drew (World.grownBy.refl wx (some b)))
        have hk3 : Kept (fun j => j = b) w1 (wx.drew.setCells b (pk * 64) cs.toList) := hkx.next (Kept.of_grown (F := fun j => j = b) hgS (fun j e => (Option.some.inj e).symm)) (fun j _ h => h)
        have hS2 : S.set pk rk = mgS z.syn z.wr (keepP L keep (k + 1)) := by
          rw [hS]
          exact (mgS_step hwk (keepP_yes hpk hy) (fun i hi => keepP_other hpk hi)).symm
        have hthere : wx.drew.there b (pk * 64) 64 := fun j hj => by
          refine ⟨?_, hbS.drew.frozen _⟩
          rw [hbS.drew.cell, List.getElem?_toArray, List.getElem?_eq_getElem (by rw [rowsC_len S hS64]; omega)]; rfl
        have hdx := (H0.out.1.1.grown H1.out.1 (by simp)).kept hkx (show ¬ (d = b) from hne.1)
        have hs : ∀ Y, Blk Y d 87 #[.slice (some ⟨b, 0, none⟩) z.syn.length z.syn.length, .map (some m), .bool z.off, .int .i64 z.lasts] → Y.ownsMap Tryz.prog 3 (secR 64) m 5000 D → (Y.cell? ⟨d, 0, none⟩ = some (.slice (some ⟨b, 0, none⟩) z.syn.length z.syn.length) ∧ Y.cell? ⟨d, 1, none⟩ = some (.map (some m)) ∧ (Instr.lookup 85 (.map (some m)) (.int .i64 (pk : Int)) false).run Tryz.prog Y = .ok (.agg cs) Y) := fun Y h1 h2 => ⟨h1.cell 0, h1.cell 1, by rw [(dk_look h2 H0.out.2.2.2.2.2.1 hwk (by omega)).1, hsec]⟩
        have hs1 := hs _ hdx.drew (hownx.kept (grown_drew (World.grownBy.refl wx none)) (by simp))
        have hs2 := hs _ (hdx.grown hgS (by intro e; injection e with e; exact hne.1 e)) (hownx.kept hgS (by intro e; injection e with e; exact hne.2.2 e.symm))
        have HW := Lib.hid (And.intro hS1 (And.intro hk3 (And.intro hS2 (And.intro hthere (And.intro (show ∀ r' ∈ S.set pk rk, r'.length = 64 from fun r' h => by rcases List.mem_or_eq_of_mem_set h with h | rfl; exact hS64 _ h; exact hlook.2) (And.intro hs1 hs2))))))
        have HV := Lib.hid (And.intro hcz hc1)
        have hpb : 0 ≤ (pk : Int) ∧ (pk : Int) < (z.syn.length : Int) := by omega
        have e3 : decide ((k : Int) < (N : Int)) = true := by simp; omega
        have e4 : decide ((k : Int) < (n : Int)) = true := by simp; omega
        clear hLne hcL hbl hkl hpk hpk0 hpl hwk hpn hsl hbw hne hcK hkb hownx hlook hcs hsec hcz hc1 hSl hcz2 hS1 hgS hk3 hS2 hthere hdx hs hs1 hs2 hS hS64 hbS hkx hwx hy
        gi_upto_region 4 with fail
        rename_i K8 hK8
        refine wpIn_normal ?_
        refine wpIn_region_held_wide (S := fun Y => Y.cell? ⟨d, 0, none⟩ = some (.slice (some ⟨b, 0, none⟩) z.syn.length z.syn.length) ∧ Y.cell? ⟨d, 1, none⟩ = some (.map (some m)) ∧ (Instr.lookup 85 (.map (some m)) (.int .i64 (pk : Int)) false).run Tryz.prog Y = .ok (.agg cs) Y) (by kernel_rfl) (by kernel_rfl) (by rintro ⟨_, _, h, _⟩; cases h) HW.out.2.2.2.2.2.1 (fun hHeld => ?_)
        refine wpAnyH_take (i := 0) (oi := _) (v := ?vz0) rfl (by kernel_rfl) (by kernel_rfl) (by kernel_rfl) (fun _ _ _ h => by cases h.1) (Or.inl ⟨by rfl, ?hyz0⟩) (by assumption) ?restz0
        case hyz0 => (intro V hSw; (try dsimp only at hSw); go_simp) <;> with_reducible rfl
        try simp only [Act.put, List.getElem_toArray, List.getElem_cons_succ, List.getElem_cons_zero, List.setIfInBounds_toArray, List.set_cons_zero, List.set_cons_succ]
        refine wpAnyH_take (i := 1) (oi := _) (v := ?vz1) rfl (by kernel_rfl) (by kernel_rfl) (by kernel_rfl) (fun _ _ _ h => by cases h.1) (Or.inl ⟨by rfl, ?hyz1⟩) (by assumption) ?restz1
        case hyz1 => (intro V hSw; (try dsimp only at hSw); go_simp) <;> with_reducible rfl
        try simp only [Act.put, List.getElem_toArray, List.getElem_cons_succ, List.getElem_cons_zero, List.setIfInBounds_toArray, List.set_cons_zero, List.set_cons_succ]
        refine wpAnyH_take (i := 2) (oi := _) (v := ?vz2) rfl (by kernel_rfl) (by kernel_rfl) (by kernel_rfl) (fun _ _ _ h => by cases h.1) (Or.inl ⟨by rfl, ?hyz2⟩) (by assumption) ?restz2
        case hyz2 => (intro V hSw; (try dsimp only at hSw); go_simp) <;> with_reducible rfl
        try simp only [Act.put, List.getElem_toArray, List.getElem_cons_succ, List.getElem_cons_zero, List.setIfInBounds_toArray, List.set_cons_zero, List.set_cons_succ]
        refine wpAnyH_take (i := 3) (oi := _) (v := ?vz3) rfl (by kernel_rfl) (by kernel_rfl) (by kernel_rfl) (fun _ _ _ h => by cases h.1) (Or.inl ⟨by rfl, ?hyz3⟩) (by assumption) ?restz3
        case hyz3 => (intro V hSw; (try dsimp only at hSw); go_simp) <;> with_reducible rfl
        try simp only [Act.put, List.getElem_toArray, List.getElem_cons_succ, List.getElem_cons_zero, List.setIfInBounds_toArray, List.set_cons_zero, List.set_cons_succ]
        refine wpAnyH_take (i := 4) (oi := _) (v := ?vz4) rfl (by kernel_rfl) (by kernel_rfl) (by kernel_rfl) (fun _ _ _ h => by cases h.1) (Or.inl ⟨by rfl, ?hyz4⟩) (by assumption) ?restz4
        case hyz4 => (intro V hSw; (try dsimp only at hSw); go_simp) <;> with_reducible rfl
        try simp only [Act.put, List.getElem_toArray, List.getElem_cons_succ, List.getElem_cons_zero, List.setIfInBounds_toArray, List.set_cons_zero, List.set_cons_succ]
        refine wpAnyH_take (i := 5) (oi := _) (v := ?vz5) rfl (by kernel_rfl) (by kernel_rfl) (by kernel_rfl) (fun _ _ _ h => by cases h.1) (Or.inl ⟨by rfl, ?hyz5⟩) (by assumption) ?restz5
        case hyz5 => (intro V hSw; (try dsimp only at hSw); go_simp) <;> with_reducible rfl
        try simp only [Act.put, List.getElem_toArray, List.getElem_cons_succ, List.getElem_cons_zero, List.setIfInBounds_toArray, List.set_cons_zero, List.set_cons_succ]
        refine wpAnyH_take (i := 6) (oi := _) (v := ?vz6) rfl (by kernel_rfl) (by kernel_rfl) (by kernel_rfl) (fun _ _ _ h => by cases h.1) (Or.inl ⟨by rfl, ?hyz6⟩) (by assumption) ?restz6
        case hyz6 => (intro V hSw; (try dsimp only at hSw); go_simp) <;> with_reducible rfl
        try simp only [Act.put, List.getElem_toArray, List.getElem_cons_succ, List.getElem_cons_zero, List.setIfInBounds_toArray, List.set_cons_zero, List.set_cons_succ]
        refine wpAnyH_take (i := 7) (oi := _) (v := ?vz7) rfl (by kernel_rfl) (by kernel_rfl) (by kernel_rfl) (fun _ _ _ h => by cases h.1) (Or.inl ⟨by rfl, ?hyz7⟩) (by assumption) ?restz7
        case hyz7 => (intro V hSw; (try dsimp only at hSw); go_simp) <;> with_reducible rfl
        try simp only [Act.put, List.getElem_toArray, List.getElem_cons_succ, List.getElem_cons_zero, List.setIfInBounds_toArray, List.set_cons_zero, List.set_cons_succ]
        refine wpAnyH_take (i := 8) (oi := _) (v := ?vz8) rfl (by kernel_rfl) (by kernel_rfl) (by kernel_rfl) (fun _ _ _ h => by cases h.1) (Or.inl ⟨by rfl, ?hyz8⟩) (by assumption) ?restz8
        case hyz8 => (intro V hSw; (try dsimp only at hSw); go_simp) <;> with_reducible rfl
        try simp only [Act.put, List.getElem_toArray, List.getElem_cons_succ, List.getElem_cons_zero, List.setIfInBounds_toArray, List.set_cons_zero, List.set_cons_succ]
        refine wpAnyH_take (i := 9) (oi := _) (v := ?vz9) rfl (by kernel_rfl) (by kernel_rfl) (by kernel_rfl) (fun _ _ _ h => by cases h.1) (Or.inl ⟨by rfl, ?hyz9⟩) (by assumption) ?restz9
        case hyz9 => (intro V hSw; (try dsimp only at hSw); go_simp) <;> with_reducible rfl
        try simp only [Act.put, List.getElem_toArray, List.getElem_cons_succ, List.getElem_cons_zero, List.setIfInBounds_toArray, List.set_cons_zero, List.set_cons_succ]
        refine wpAnyH_take (i := 10) (oi := _) (v := ?vz10) rfl (by kernel_rfl) (by kernel_rfl) (by kernel_rfl) (fun _ _ _ h => by cases h.1) (Or.inl ⟨by rfl, ?hyz10⟩) (by assumption) ?restz10
        case hyz10 => (intro V hSw; (try dsimp only at hSw); go_simp) <;> with_reducible rfl
        try simp only [Act.put, List.getElem_toArray, List.getElem_cons_succ, List.getElem_cons_zero, List.setIfInBounds_toArray, List.set_cons_zero, List.set_cons_succ]
        refine wpAnyH_take (i := 11) (oi := _) (v := ?vz11) rfl (by kernel_rfl) (by kernel_rfl) (by kernel_rfl) (fun _ _ _ h => by cases h.1) (Or.inl ⟨by rfl, ?hyz11⟩) (by assumption) ?restz11
        case hyz11 => (intro V hSw; (try dsimp only at hSw); go_simp) <;> with_reducible rfl
        try simp only [Act.put, List.getElem_toArray, List.getElem_cons_succ, List.getElem_cons_zero, List.setIfInBounds_toArray, List.set_cons_zero, List.set_cons_succ]
        refine wpAnyH_ready (rs := [12]) (by kernel_rfl) (by simp) ?_
        refine (AllReadyH.cons (o := _) rfl (fun K9 hK => ?_) AllReadyH.nil)
        refine ready_store_mid (by rfl) 105 _ _ rfl b (pk * 64) cs rfl rfl (by rw [HV.out.1]; exact HW.out.2.2.2.1) (by rw [HV.out.1]; kernel_rfl) HV.out.2 ?_
        refine hK.out _ _ HW.out.2.2.2.2.2.2 (fun hHeld => ?_)
        clear hK K9
        try simp only [Act.put, List.getElem_toArray, List.getElem_cons_succ, List.getElem_cons_zero, List.setIfInBounds_toArray, List.set_cons_zero, List.set_cons_succ]
        refine wpAnyH_done (by kernel_rfl) ?_ _
        refine ⟨rfl, hK8 _ _ ?_⟩
        gi_wp2
        go_roundw
        case rel => exact ⟨k + 1, by omega, by simp, S.set pk rk, HW.out.2.2.1, HW.out.2.2.2.2.1, HW.out.1, HW.out.2.1⟩
        case measure => simp [intOf]; omega
      · have hno : keepP L keep (k + 1) = keepP L keep k := keepP_no hy
        have e3 : decide ((k : Int) < (N : Int)) = true := by simp; omega
        have HW := Lib.hid (And.intro hno (And.intro hS (And.intro hS64 (And.intro hbS hkx))))
        by_cases hkk : k < n
        · obtain ⟨bK, oK, rfl, hcK⟩ := H0.out.2.2.1 (by rintro rfl; have := H0.out.2.1; simp at this; omega)
          have hkl2 : k < keep.length := by rw [H0.out.2.1]; exact hkk
          have hkb := H0.out.2.2.2.1 _ rfl (by rintro rfl; simp at hkl2)
          have xK := hwx.cell (hcK k hkl2) (show ¬ (bK = b) from hkb)
          rw [show keep[k] = false by cases e : keep[k] with | false => rfl | true => exact absurd ((List.getElem?_eq_getElem hkl2).trans (by rw [e])) hy] at xK
          have e4 : decide ((k : Int) < (n : Int)) = true := by simp; omega
          clear hLne hcL hbl hkl hpk hpk0 hpl hwk hpn hsl hbw hne hcK hkb hS hS64 hbS hkx hwx hy hno hkl2
          gi_wp2
          go_roundw
          case rel => exact ⟨k + 1, by omega, by simp, S, by rw [HW.out.1]; exact HW.out.2.1, HW.out.2.2.1, HW.out.2.2.2.1, HW.out.2.2.2.2⟩
          case measure => simp [intOf]; omega
        · have e4 : decide ((k : Int) < (n : Int)) = false := by simp; omega
          clear hLne hcL hbl hkl hpk hpk0 hpl hwk hpn hsl hbw hne hS hS64 hbS hkx hwx hy hno
          gi_wp2
          go_roundw
          case rel => exact ⟨k + 1, by omega, by simp, S, by rw [HW.out.1]; exact HW.out.2.1, HW.out.2.2.1, HW.out.2.2.2.1, HW.out.2.2.2.2⟩
          case measure => simp [intOf]; omega

    · have e3 : decide ((k : Int) < (N : Int)) = false := by simp; omega
      obtain rfl : k = N := by omega
      obtain ⟨h1, _, _, hl, _, hlen, hlasts, hne⟩ := H0.out.1
      have hdx := (h1.grown H1.out.1 (by simp)).kept hkx (show ¬ (d = b) from hne.1)
      have hownx := (H0.out.2.2.2.2.1.kept H1.out.1 (by simp)).kept (row := some b) ⟨hkx.os, hkx.tape, hkx.output, hkx.size, fun j h1 h2 => hkx.block j h1 (fun e => h2 (by rw [e]))⟩ (by intro e; injection e with e; exact hne.2.2 e.symm)
      obtain ⟨w5, hrun5, hown5, ht5⟩ := clear_own hownx Tryz.underlying85 0
      have hk5 : Kept (fun j => j = m) wx w5 := Kept.of_grown (F := fun j => j = m) ht5.grown (fun j e => (Option.some.inj e).symm)
      have hd5 := hdx.kept hk5 (fun e => hne.2.1 e)
      have hb5 := hbS.kept hk5 (fun e => hne.2.2 e)
      have hkw : Kept (fun j => j = d ∨ j = b ∨ j = m) w w5 := ((Kept.of_grown (F := fun j => j = d ∨ j = b ∨ j = m) H1.out.1 (fun _ e => by cases e)).next hkx (fun _ _ h => .inr (.inl h))).next hk5 (fun _ _ h => .inr (.inr h))
      have c1 := hdx.cell 1
      have f2 := hd5.frozen 2
      have x2 := hd5.cell 2
      have x3 := hd5.cell 3
      have f3 := hd5.frozen 3
      simp only [List.getElem?_toArray, List.getElem?_cons_zero, List.getElem?_cons_succ] at c1 x2 x3
      have hK2 : Kept (fun j => j = d) w5 ((w5.setCell ⟨d, 2, none⟩ (.bool false)).setCell ⟨d, 3, none⟩ (.int .i64 (-1))) := ((Kept.refl (fun j => j = d) w5).set (p := ⟨d, 2, none⟩) (.inl rfl) _).set (p := ⟨d, 3, none⟩) (.inl rfl) _
      have hd6 := (hd5.set 2 (.bool false)).set 3 (.int .i64 (-1))
      simp only [List.setIfInBounds_toArray, List.set_cons_zero, List.set_cons_succ] at hd6
      have hb6 := hb5.kept hK2 (fun e => hne.1 e.symm)
      have hm6 := hown5.kept (row := some d) ⟨hK2.os, hK2.tape, hK2.output, hK2.size, fun j h1 h2 => hK2.block j h1 (fun e => h2 (by rw [e]))⟩ (by intro e; injection e with e; exact hne.2.1 e.symm)
      have hsl : (crashS z keep).syn.length = z.syn.length := mgS_length _ _ _
      have hSe : S = (crashS z keep).syn := by rw [hS]; show _ = mgS z.syn z.wr (keepP (dirtyL z.wr) keep (dirtyL z.wr).length); rw [H0.out.2.2.2.2.2.2, H1.out.2.2.1]
      have hfin : DkIs ((w5.setCell ⟨d, 2, none⟩ (.bool false)).setCell ⟨d, 3, none⟩ (.int .i64 (-1))) d b m (crashS z keep) := by
        refine ⟨by rw [hsl]; exact hd6, ?_, ⟨_, hm6.mono (by omega), mapOf_empty _⟩, by rw [hsl, ← hl]; simp [crashS], by rw [← hSe]; exact hS64, by rw [hsl]; exact hlen, by simp [crashS], hne⟩
        show Blk _ b _ (rowsC (crashS z keep).syn).toArray
        rw [← hSe]
        exact hb6
      have HF := Lib.hid (And.intro hfin (hkw.next hK2 (fun _ _ h => .inl h)))
      clear h1 hl hlen hlasts hne hdx hownx hown5 ht5 hk5 hd5 hb5 hkw hK2 hd6 hb6 hm6 hsl hSe hfin hS hS64 hbS hkx hlt hkN
      gi_wp2
      exact ⟨rfl, _, results_none rfl _ _ _, rfl, HF.out⟩
end Go.Proofs.YthkjlgjbjjjohaaGreatDoor
/-
  Disk: New.
-/
namespace Go.Proofs.YthkjlgjbjjjohaaGreatDoor
open Go.RowKit Go.Maps

theorem made_zeros (m : Nat) : madeCells (List.replicate 64 (Value.int .u8 0)).toArray m = (List.replicate m (Value.int .u8 0)).toArray := by
  apply Array.ext
  · simp [madeCells]
  · intro i h1 h2
    have hm : i % 64 < (List.replicate 64 (Value.int .u8 0)).toArray.size := by simpa using Nat.mod_lt i (show 0 < 64 by decide)
    simp only [madeCells, Array.getElem_map, Array.getElem_range, List.size_toArray, List.length_replicate, List.getElem_toArray, List.getElem_replicate]
    rw [getElem!_pos (List.replicate 64 (Value.int .u8 0)).toArray (i % 64) hm, List.getElem_toArray, List.getElem_replicate]
def newS (n : Nat) : DkS := { syn := List.replicate n (List.replicate 64 0), wr := List.replicate n none, off := false, lasts := -1 }
theorem newS_cells (n : Nat) : (newS n).cells = (List.replicate (n * 64) (Value.int .u8 0)).toArray := by
  have h : (List.replicate n (List.replicate 64 (0 : Int))).flatMap (fun r => r.map (Value.int .u8)) = List.replicate (n * 64) (Value.int .u8 0) := by
    induction n with
    | zero => rfl
    | succ n ih => rw [List.replicate_succ, List.flatMap_cons, ih, List.map_replicate, List.replicate_append_replicate]; congr 1; omega
  rw [DkS.cells, newS, h]
theorem dk_made (w : World) (n : Nat) (hn : n ≤ 4096) : Sem.run Tryz.prog (Instr.makeSlice 84 (.int .i64 (n : Int)) (.int .i64 (n : Int))) w = .ok (.slice (some ⟨w.heap.size, 0, none⟩) n n) (w.alloc (.cells (newS n).cells 105)) := by
  obtain ⟨i, hi, hz0, hz1, hz2⟩ := info_parts (P := Tryz.prog) (e := 105) (z := .agg (List.replicate 64 (Value.int .u8 0)).toArray) (size := 64) (bytes := 64) (by kernel_rfl)
  have h := run_make (P := Tryz.prog) w 84 105 i _ Tryz.underlying84 hi hz0 .i64 .i64 (n : Int) (n : Int) (by omega) (Int.le_refl _) (by rw [hz2]; omega) (by omega)
  rw [hz1, Int.toNat_natCast] at h
  rw [newS_cells, ← made_zeros]
  exact h

set_option maxRecDepth 100000 in
set_option maxHeartbeats 1000000 in
theorem dk_new (w : World) (B : Nat) (n : Int) (er : Addr) (he : ErrAt w B 0 er) :
    Calls Tryz.prog 15 #[.int .i64 n] w fun e w' => w.grownBy w' none ∧ ((¬ (1 ≤ n ∧ n ≤ 4096) ∧ e = .returned (.tuple #[.pointer none, errV er])) ∨
      (∃ k d b m : Nat, n = (k : Int) ∧ 1 ≤ k ∧ k ≤ 4096 ∧ e = .returned (.tuple #[.pointer (some ⟨d, 0, none⟩), .nilIface]) ∧ DkIs w' d b m (newS k) ∧ w.heap.size ≤ d ∧ w.heap.size ≤ b ∧ w.heap.size ≤ m)) := by
  have er0 := he.1
  by_cases h1 : n < 1
  · have d1 : decide (n < 1) = true := by simpa using h1
    clear he
    go_enter Tryz.func15, Tryz.ntmps15
    go_wp2_with fail
    go_quiet (fail)
    go_wp2_with fail
    refine bodyPost_ret (results_tmp2S7 rfl _ _ _) rfl ?_
    exact ⟨⟨rfl, rfl, rfl, Nat.le_refl _, fun _ _ _ => rfl⟩, .inl ⟨by omega, rfl⟩⟩
  have d1 : decide (n < 1) = false := by simpa using h1
  by_cases h2 : 4096 < n
  · have d2 : decide (4096 < n) = true := by simpa using h2
    clear he
    go_enter Tryz.func15, Tryz.ntmps15
    go_wp2_with fail
    go_quiet (fail)
    go_wp2_with fail
    refine bodyPost_ret (results_tmp2S7 rfl _ _ _) rfl ?_
    exact ⟨⟨rfl, rfl, rfl, Nat.le_refl _, fun _ _ _ => rfl⟩, .inl ⟨by omega, rfl⟩⟩
  have d2 : decide (4096 < n) = false := by simpa using h2
  obtain ⟨k, rfl⟩ : ∃ k : Nat, n = (k : Int) := ⟨n.toNat, by omega⟩
  have hk : 1 ≤ k ∧ k ≤ 4096 := by omega
  have hmk := fun V => dk_made V k hk.2
  have hmm := @run_makeMap Tryz.prog
  have HK := Lib.hid hk
  obtain ⟨M, hM⟩ : ∃ M, (newS k).cells = M := ⟨_, rfl⟩
  rw [hM] at hmk
  have HMM := Lib.hid hM
  clear he hk hM h1 h2 er0
  go_enter Tryz.func15, Tryz.ntmps15
  go_wp2_with fail
  refine bodyPost_ret (results_tmp2S7 rfl _ _ _) rfl ?_
  refine ⟨grown_trans (grown_trans (World.grownBy_alloc _ _ none) (World.grownBy_alloc _ _ none)) (World.grownBy_alloc _ _ none), .inr ⟨k, w.heap.size + 1 + 1, w.heap.size, w.heap.size + 1, rfl, HK.out.1, HK.out.2, rfl, ?_, by omega, by omega, by omega⟩⟩
  have hs : (newS k).syn.length = k := by simp [newS]
  refine ⟨?_, ?_, ⟨.map [], ?_, mapOf_empty k⟩, by simp [newS], fun r hr => by simp [newS] at hr; rw [hr.2]; simp, by rw [hs]; exact HK.out, by simp [newS], by omega⟩
  · have h := Blk.new ((w.alloc (.cells M 105)).alloc (.map #[] 0)) 87 #[.slice (some ⟨w.heap.size, 0, none⟩) k k, .map (some (w.heap.size + 1)), .bool false, .int .i64 (-1)]
    rw [World.size_alloc, World.size_alloc] at h
    rw [hs]
    exact h
  · rw [HMM.out]
    exact ((Blk.new w _ _).alloc _).alloc _
  · have h := (World.ownsMap_made (H := Unit) (w.alloc (.cells M 105)) Tryz.prog 3 (secR 64)).alloc (.cells #[.slice (some ⟨w.heap.size, 0, none⟩) k k, .map (some (w.heap.size + 1)), .bool false, .int .i64 (-1)] 87)
    rw [World.size_alloc] at h
    exact h.mono (by omega)
end Go.Proofs.YthkjlgjbjjjohaaGreatDoor
/-
  Disk: the calls of a disk that was made behind a beginning: what they answer, and the disk behind them, as functions.
-/
namespace Go.Proofs.YthkjlgjbjjjohaaGreatDoor
open Go.RowKit Go.Maps

def inR (z : DkS) (i : Int) : Bool := decide (0 ≤ i ∧ i < (z.syn.length : Int))
def wE (z : DkS) (i : Int) : Nat := if inR z i then (if opOk z then 0 else 2) else 1
def wS (z : DkS) (i : Int) (r : List Int) : DkS := if inR z i then (if opOk z then wrS (opS z) i.toNat r else opS z) else z
def sE (z : DkS) : Nat := if opOk z then 0 else 2
def sS (z : DkS) : DkS := if opOk z then syncS (opS z) else opS z
def rE (z : DkS) (i : Int) : Nat := if inR z i then (if z.off then 2 else 0) else 1
def rV (z : DkS) (i : Int) : List Int := if inR z i then (if z.off then zeroR else readS z i.toNat) else zeroR
def eV (er ep : Addr) : Nat → Value
  | 0 => .nilIface
  | 1 => errV er
  | _ => errV ep
/-- A disk that lies behind the beginning w0. -/
def Dsk (w0 w : World) (d b m : Nat) (z : DkS) : Prop :=
  DkIs w d b m z ∧ Kept (fun j => w0.heap.size ≤ j) w0 w ∧ w0.heap.size ≤ d ∧ w0.heap.size ≤ b ∧ w0.heap.size ≤ m
theorem Dsk.next {w0 w w' : World} {d b m : Nat} {z y : DkS} (h : Dsk w0 w d b m z) (hy : DkIs w' d b m y) (hk : Kept (fun j => j = d ∨ j = b ∨ j = m) w w') : Dsk w0 w' d b m y :=
  ⟨hy, h.2.1.next hk (fun j _ e => by
    have := h.2.2
    have e : j = d ∨ j = b ∨ j = m := e
    show w0.heap.size ≤ j
    omega), h.2.2⟩
theorem Dsk.grown {w0 w w' : World} {d b m : Nat} {z : DkS} (h : Dsk w0 w d b m z) (hg : w.grownBy w' none) : Dsk w0 w' d b m z :=
  h.next (h.1.grown hg) (Kept.of_grown (F := fun j => j = d ∨ j = b ∨ j = m) hg fun _ e => by cases e)
theorem Dsk.below {w0 w : World} {d b m : Nat} {z : DkS} (h : Dsk w0 w d b m z) : Below w0.heap.size w0 w := h.2.1.below (Nat.le_refl _) (fun _ h => h)
theorem Dsk.grownNone {w0 w : World} {d b m : Nat} {z : DkS} (h : Dsk w0 w d b m z) : w0.grownBy w none := h.2.1.grownNone (fun j h1 h2 => by omega)
/-- The disk turns; what lies beside it is kept. -/
def DTurn (d b m : Nat) (w w' : World) : Prop := Kept (fun j => j = d ∨ j = b ∨ j = m) w w'

section
variable {w0 w : World} {d b m : Nat} {z : DkS} {er ep : Addr}
theorem dsk_new (w0 w : World) (hk : Kept (fun j => w0.heap.size ≤ j) w0 w) (n : Nat) (hn : 1 ≤ n ∧ n ≤ 4096) (er : Addr) (he : ErrAt w0 w0.heap.size 0 er) :
    Calls Tryz.prog 15 #[.int .i64 (n : Int)] w fun e w' => w.grownBy w' none ∧ ∃ d b m, e = .returned (.tuple #[.pointer (some ⟨d, 0, none⟩), .nilIface]) ∧ Dsk w0 w' d b m (newS n) ∧ w.heap.size ≤ d ∧ w.heap.size ≤ b ∧ w.heap.size ≤ m := by
  have hb := hk.below (Nat.le_refl _) (fun _ h => h)
  refine (dk_new w w0.heap.size (n : Int) er (he.below hb (Nat.le_refl _))).mono ?_
  rintro e w' ⟨hg, ⟨hno, _⟩ | ⟨k, d, b, m, hnk, _, _, rfl, hd, h1, h2, h3⟩⟩
  · omega
  · obtain rfl : n = k := by omega
    have hs := hk.size
    exact ⟨hg, d, b, m, rfl, ⟨hd, hk.next (Kept.of_grown (F := fun j => w0.heap.size ≤ j) hg fun _ e => by cases e) (fun _ _ h => h), by omega, by omega, by omega⟩, h1, h2, h3⟩
theorem dsk_write (h : Dsk w0 w d b m z) (her : ErrAt w0 w0.heap.size 0 er) (hep : ErrAt w0 w0.heap.size 6 ep) (i : Int) (r : List Int) (hr : r.length = 64) :
    Calls Tryz.prog 41 #[.pointer (some ⟨d, 0, none⟩), .int .i64 i, secV r] w fun e w' => e = .returned (eV er ep (wE z i)) ∧ Dsk w0 w' d b m (wS z i r) ∧ DTurn d b m w w' := by
  refine (dk_write w d b m w0.heap.size z h.1 i r hr er ep h.2.2.1 h.2.2.2.2 (her.below h.below (Nat.le_refl _)) (hep.below h.below (Nat.le_refl _))).mono ?_
  rintro e w' ⟨hk, hor⟩
  have hk2 : Kept (fun j => j = d ∨ j = b ∨ j = m) w w' := hk.mono (fun j _ h => by rcases h with h | h; exact .inl h; exact .inr (.inr h))
  rcases hor with ⟨hno, rfl, hd⟩ | ⟨k, rfl, hk1, ⟨ho, rfl, hd⟩ | ⟨ho, rfl, hd⟩⟩
  · have e1 : inR z i = false := by simpa [inR] using hno
    refine ⟨by simp [wE, e1, eV], ?_, hk2⟩
    simp only [wS, e1, Bool.false_eq_true, if_false]
    exact h.next hd hk2
  · have e1 : inR z (k : Int) = true := by simp only [inR, decide_eq_true_eq]; omega
    refine ⟨by simp [wE, e1, ho, eV], ?_, hk2⟩
    simp only [wS, e1, ho, Bool.false_eq_true, if_false, if_true]
    exact h.next hd hk2
  · have e1 : inR z (k : Int) = true := by simp only [inR, decide_eq_true_eq]; omega
    refine ⟨by simp [wE, e1, ho, eV], ?_, hk2⟩
    simp only [wS, e1, ho, if_true, Int.toNat_natCast]
    exact h.next hd hk2
theorem dsk_sync (h : Dsk w0 w d b m z) (hep : ErrAt w0 w0.heap.size 6 ep) (er : Addr) :
    Calls Tryz.prog 44 #[.pointer (some ⟨d, 0, none⟩)] w fun e w' => e = .returned (eV er ep (sE z)) ∧ Dsk w0 w' d b m (sS z) ∧ DTurn d b m w w' := by
  refine (dk_sync w d b m w0.heap.size z h.1 ep h.2.2.1 (hep.below h.below (Nat.le_refl _))).mono ?_
  rintro e w' ⟨hk, ⟨ho, rfl, hd⟩ | ⟨ho, rfl, hd⟩⟩
  · refine ⟨by simp [sE, ho, eV], ?_, hk⟩
    simp only [sS, ho, Bool.false_eq_true, if_false]
    exact h.next hd hk
  · refine ⟨by simp [sE, ho, eV], ?_, hk⟩
    simp only [sS, ho, if_true]
    exact h.next hd hk
theorem dsk_read (h : Dsk w0 w d b m z) (her : ErrAt w0 w0.heap.size 0 er) (hep : ErrAt w0 w0.heap.size 6 ep) (i : Int) :
    Calls Tryz.prog 71 #[.pointer (some ⟨d, 0, none⟩), .int .i64 i] w fun e w' => e = .returned (.tuple #[secV (rV z i), eV er ep (rE z i)]) ∧ w.grownBy w' none := by
  refine (dk_read w d b m w0.heap.size z h.1 i er ep (her.below h.below (Nat.le_refl _)) (hep.below h.below (Nat.le_refl _))).mono ?_
  rintro e w' ⟨hg, ⟨hno, rfl⟩ | ⟨k, rfl, hk1, ⟨ho, rfl⟩ | ⟨ho, rfl⟩⟩⟩
  · have e1 : inR z i = false := by simpa [inR] using hno
    exact ⟨by simp [rE, rV, e1, eV], hg⟩
  · have e1 : inR z (k : Int) = true := by simp only [inR, decide_eq_true_eq]; omega
    exact ⟨by simp [rE, rV, e1, ho, eV], hg⟩
  · have e1 : inR z (k : Int) = true := by simp only [inR, decide_eq_true_eq]; omega
    exact ⟨by simp [rE, rV, e1, ho, eV], hg⟩
theorem dsk_arm (h : Dsk w0 w d b m z) (k : Int) (hk : k < 9223372036854775808) : Calls Tryz.prog 11 #[.pointer (some ⟨d, 0, none⟩), .int .i64 k] w fun e w' => e = .returned (.tuple #[]) ∧ Dsk w0 w' d b m (armS z k) ∧ DTurn d b m w w' :=
  (dk_arm w d b m z h.1 k hk).mono fun e w' ⟨he, hd, hk⟩ => ⟨he, h.next hd (hk.mono fun _ _ h => .inl h), hk.mono fun _ _ h => .inl h⟩
theorem dsk_crash (h : Dsk w0 w d b m z) (A : Option Addr) (n c : Nat) (keep : List Bool) (hkn : keep.length = n) (hk : BoolsAt w A keep) (hka : ∀ a, A = some a → keep ≠ [] → a.block ≠ b) :
    Calls Tryz.prog 29 #[.pointer (some ⟨d, 0, none⟩), .slice A n c] w fun e w' => e = .returned (.tuple #[]) ∧ Dsk w0 w' d b m (crashS z keep) ∧ DTurn d b m w w' :=
  (dk_crash w d b m z h.1 A n c keep hkn hk hka).mono fun e w' ⟨he, hd, hk⟩ => ⟨he, h.next hd hk, hk⟩
theorem dsk_unsynced (h : Dsk w0 w d b m z) : Calls Tryz.prog 56 #[.pointer (some ⟨d, 0, none⟩)] w fun e w' => ∃ A c, e = .returned (.slice A (dirtyL z.wr).length c) ∧ (dirtyL z.wr).length ≤ c ∧ IntsAt w' A (dirtyL z.wr) ∧ w.grownBy w' none := by
  obtain ⟨D, hown, hM⟩ := h.1.2.2.1
  refine (unsynced_is w d m 5000 D z.wr (h.1.1.cell 1) hown hM (by have := h.1.2.2.2.1; have := h.1.2.2.2.2.2.1; omega)).mono ?_
  rintro e w' ⟨v, rfl, hrow, _, hb⟩
  obtain ⟨A, c, rfl, hc, hi⟩ := own_ints hrow
  exact ⟨A, c, rfl, hc, hi, grown_below0 hb⟩
end
/-! ### Some disks -/
theorem opOk_of {z : DkS} (h1 : z.off = false) (h2 : z.lasts ≠ 0) : opOk z = true := by simp [opOk, h1, h2]
theorem opS_forever {z : DkS} (h1 : z.off = false) (h2 : z.lasts = -1) : opS z = z := by
  rw [opS, if_neg (by omega), if_neg (by simp [h1]), if_neg (by omega)]
theorem wE_ok {z : DkS} {i : Nat} (hi : i < z.syn.length) (h1 : z.off = false) (h2 : z.lasts ≠ 0) : wE z (i : Int) = 0 := by
  have : inR z (i : Int) = true := by simp only [inR, decide_eq_true_eq]; omega
  simp [wE, this, opOk_of h1 h2]
theorem wS_ok {z : DkS} {i : Nat} (r : List Int) (hi : i < z.syn.length) (h1 : z.off = false) (h2 : z.lasts = -1) : wS z (i : Int) r = wrS z i r := by
  have : inR z (i : Int) = true := by simp only [inR, decide_eq_true_eq]; omega
  simp [wS, this, opOk_of h1 (show z.lasts ≠ 0 by omega), opS_forever h1 h2]
theorem sE_ok {z : DkS} (h1 : z.off = false) (h2 : z.lasts ≠ 0) : sE z = 0 := by simp [sE, opOk_of h1 h2]
theorem sS_ok {z : DkS} (h1 : z.off = false) (h2 : z.lasts = -1) : sS z = syncS z := by simp [sS, opOk_of h1 (show z.lasts ≠ 0 by omega), opS_forever h1 h2]
theorem rE_ok {z : DkS} {i : Nat} (hi : i < z.syn.length) (h1 : z.off = false) : rE z (i : Int) = 0 := by
  have : inR z (i : Int) = true := by simp only [inR, decide_eq_true_eq]; omega
  simp [rE, this, h1]
theorem rV_ok {z : DkS} {i : Nat} (hi : i < z.syn.length) (h1 : z.off = false) : rV z (i : Int) = readS z i := by
  have : inR z (i : Int) = true := by simp only [inR, decide_eq_true_eq]; omega
  simp [rV, this, h1]
/-- A sector of one byte, the others zero. -/
def firstR (x : Int) : List Int := x :: List.replicate 63 0
theorem firstR_len (x : Int) : (firstR x).length = 64 := by simp [firstR]
theorem build_first (w : World) (x : Int) (es : Array Value) (h : ((firstR x).map (Value.int .u8)).toArray = es) : Sem.run Tryz.prog (Instr.build 105 #[(0, .int .u8 x)]) w = .ok (.agg es) w := by
  subst h
  exact run_build w 105 _ _ (by kernel_rfl)
section
variable {w0 w : World} {d b m : Nat} {z y : DkS} {er ep : Addr}
theorem dsk_write0 (h : Dsk w0 w d b m z) (her : ErrAt w0 w0.heap.size 0 er) (hep : ErrAt w0 w0.heap.size 6 ep) (i : Int) (r : List Int) (hr : r.length = 64) (hE : wE z i = 0) (hS : wS z i r = y) (es : Array Value) (hes : (r.map (Value.int .u8)).toArray = es) :
    Calls Tryz.prog 41 #[.pointer (some ⟨d, 0, none⟩), .int .i64 i, .agg es] w fun e w' => e = .returned .nilIface ∧ Dsk w0 w' d b m y ∧ DTurn d b m w w' := by
  have h := dsk_write h her hep i r hr
  rw [hE, hS, secV, hes] at h
  exact h
theorem dsk_sync0 (h : Dsk w0 w d b m z) (hep : ErrAt w0 w0.heap.size 6 ep) (hE : sE z = 0) (hS : sS z = y) :
    Calls Tryz.prog 44 #[.pointer (some ⟨d, 0, none⟩)] w fun e w' => e = .returned .nilIface ∧ Dsk w0 w' d b m y ∧ DTurn d b m w w' := by
  have h := dsk_sync h hep ep
  rw [hE, hS] at h
  exact h
theorem dsk_read0 (h : Dsk w0 w d b m z) (her : ErrAt w0 w0.heap.size 0 er) (hep : ErrAt w0 w0.heap.size 6 ep) (i : Int) (hE : rE z i = 0) (r : List Int) (hV : rV z i = r) (es : Array Value) (hes : (r.map (Value.int .u8)).toArray = es) :
    Calls Tryz.prog 71 #[.pointer (some ⟨d, 0, none⟩), .int .i64 i] w fun e w' => e = .returned (.tuple #[.agg es, .nilIface]) ∧ w.grownBy w' none := by
  have h := dsk_read h her hep i
  rw [hE, hV, secV, hes] at h
  exact h
theorem dsk_crash0 (h : Dsk w0 w d b m z) (hS : crashS z [] = y) : Calls Tryz.prog 29 #[.pointer (some ⟨d, 0, none⟩), .slice none 0 0] w fun e w' => e = .returned (.tuple #[]) ∧ Dsk w0 w' d b m y ∧ DTurn d b m w w' := by
  have h := dsk_crash h none 0 0 [] rfl (BoolsAt.nil _ _) (fun _ e => by cases e)
  rw [hS] at h
  exact h
end
end Go.Proofs.YthkjlgjbjjjohaaGreatDoor
