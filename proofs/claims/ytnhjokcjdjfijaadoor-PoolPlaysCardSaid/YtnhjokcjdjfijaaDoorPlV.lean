/-
  Pool: a pool whose own blocks lie from N up to M; the chapter's example.
-/
import Derived.Test.YtnhjokcjdjfijaaDoorPlI
import Derived.Test.YtnhjokcjdjfijaaDoorPlT
import Derived.Lib.SlBytesConst
namespace Go.Proofs.YtnhjokcjdjfijaaDoor
open Go.RowKit

/-- A pool at p in which L wait; its own blocks lie from N up to M. -/
def PB (w : World) (N M p : Nat) (L : List (List UInt8)) : Prop := PoolIs w (fun k => N ≤ k ∧ k < M) p L ∧ M ≤ w.heap.size
section
variable {w w' : World} {N M p : Nat} {L : List (List UInt8)}
theorem PB.grown (h : PB w N M p L) (hg : w.grownBy w' none) : PB w' N M p L := ⟨h.1.kept (Kept.of_grown (F := fun _ => False) hg fun _ e => by cases e) (fun _ h => h.elim), Nat.le_trans h.2 hg.size⟩
theorem PB.kept {F : Nat → Prop} (h : PB w N M p L) (hk : Kept F w w') (hF : ∀ k, F k → ¬ (N ≤ k ∧ k < M)) : PB w' N M p L := ⟨h.1.kept hk hF, Nat.le_trans h.2 hk.size⟩
theorem PB.new (w : World) (hN : N ≤ w.heap.size) : PB (w.alloc (.cells #[.slice none 0 0] 58)) N (w.heap.size + 1) w.heap.size [] :=
  ⟨PoolIs.new w (S := fun k => N ≤ k ∧ k < w.heap.size + 1) ⟨hN, by omega⟩, by rw [World.size_alloc]; exact Nat.le_refl _⟩
/-- Add, of such a pool. -/
theorem PB.add (h : PB w N M p L) (hL : L.length ≤ 1000) (B0 : Nat) (E : Nat → Addr) (A0 : Option Addr) (d : Nat) (x : List UInt8) (hx : BytesAt w A0 x) (he : ErrVars [3, 7, 16] w B0 E) (hB : B0 ≤ N) :
    Calls Tryd.prog 12 #[.pointer (some ⟨p, 0, none⟩), .slice A0 x.length d] w fun e w' => e = .returned (evOf E (addE L x)) ∧ PB w' N w'.heap.size p (addL L x) ∧ Kept (fun k => N ≤ k) w w' :=
  (pool_add w _ p L B0 E h.1 hL A0 d x hx he (fun k hk => Nat.le_trans hB hk.1)).mono fun e w' ⟨h1, h2, h3⟩ => by
    have hp := h.1.lt
    have hM := h.2
    have hs := h3.size
    have hpN := h.1.1.1
    exact ⟨h1, ⟨h2.mono (fun k hk hu => by
      rcases hu with hu | hu
      · exact ⟨hu.1, hk⟩
      · exact ⟨by omega, hk⟩), Nat.le_refl _⟩, h3.mono (fun k _ hk => hk.1)⟩
theorem PB.drop (h : PB w N M p L) (hL : L.length ≤ 1000) (A0 : Option Addr) (nD cD : Nat) (D : List (List UInt8)) (hn : D.length = nD) (hnb : nD ≤ 100000) (hD : LsIn w (fun k => k < N ∨ M ≤ k) A0 D) :
    Calls Tryd.prog 18 #[.pointer (some ⟨p, 0, none⟩), .slice A0 nD cD] w fun e w' => e = .returned (.int .i64 ((L.length : Int) - ((dropL L D).length : Int))) ∧ PB w' N M p (dropL L D) ∧ Kept (fun k => N ≤ k ∧ k < M) w w' :=
  (pool_drop w _ (fun k => k < N ∨ M ≤ k) p L h.1 hL (fun k hk => Nat.lt_of_lt_of_le hk.2 h.2) A0 nD cD D hn hnb hD (fun k h1 h2 => by omega)).mono fun e w' ⟨h1, h2, h3⟩ => ⟨h1, ⟨h2, Nat.le_trans h.2 h3.size⟩, h3⟩
end
theorem addE_ok {L : List (List UInt8)} {x : List UInt8} (h1 : 1 ≤ x.length) (h2 : x.length ≤ 16) (h3 : isIn L x = false) (h4 : L.length < 16) : addE L x = 0 ∧ addL L x = L ++ [x] := by
  have h : addE L x = 0 := by rw [addE, if_neg (by omega), if_neg (by rw [h3]; simp), if_neg (by omega)]
  exact ⟨h, by rw [addL, if_pos h]⟩
theorem addL_le {L : List (List UInt8)} {x : List UInt8} (h : L.length ≤ 16) : (addL L x).length ≤ 16 := by
  rw [addL]
  split
  · rename_i h0
    rw [addE] at h0
    repeat' split at h0
    all_goals first | omega | (rw [List.length_append, List.length_singleton]; omega)
  · exact h
theorem addL_small {L : List (List UInt8)} {x : List UInt8} (h : ∀ y ∈ L, y.length ≤ 16) : ∀ y ∈ addL L x, y.length ≤ 16 := by
  rw [addL]
  split
  · rename_i h0
    rw [addE] at h0
    repeat' split at h0
    all_goals first | omega | (intro y hy; rcases List.mem_append.1 hy with h1 | h1; exact h y h1; rw [List.mem_singleton.1 h1]; omega)
  · exact h

theorem bytes_one (w : World) (b : UInt8) (t : TypeId) : BytesAt (w.alloc (.cells #[.int .u8 (b.toNat : Int)] t)) (some ⟨w.heap.size, 0, none⟩) [b] := BytesAt.one w rfl
theorem bytes_mark (w : World) (b : UInt8) (t : TypeId) (fr : Nat × Nat) : BytesAt (w.alloc (.cells #[.int .u8 (b.toNat : Int)] t fr)) (some ⟨w.heap.size, 0, none⟩) [b] := fun _ => by
  refine ⟨_, rfl, fun j hj => ?_⟩
  have : j = 0 := by simpa using hj
  subst this
  exact World.cell?_alloc_mark w _ _ _ 0
/-- One list, just made: a slice of these bytes. -/
theorem lsIn_one {w : World} {B : Option Addr} {d : Nat} {x : List UInt8} (h : BytesAt w B x) (T : Nat → Prop) (hB : ∀ ad, B = some ad → x ≠ [] → T ad.block) (hT : T w.heap.size) : LsIn (w.alloc (.cells #[.slice B x.length d] 30)) T (some ⟨w.heap.size, 0, none⟩) [x] := fun _ => by
  refine ⟨w.heap.size, 0, rfl, hT, fun j hj => ?_⟩
  have : j = 0 := by simpa using hj
  subst this
  exact ⟨B, d, (Blk.new w 30 #[.slice B x.length d]).cell 0, h.alloc _, hB⟩
theorem strs_two (w : World) (x y : List UInt8) : StrsAt (w.alloc (.cells #[strV x, strV y] 9)) (some ⟨w.heap.size, 0, none⟩) [x, y] := fun _ => by
  refine ⟨w.heap.size, 0, rfl, fun j hj => ?_⟩
  have : j = 0 ∨ j = 1 := by simp at hj; omega
  rcases this with rfl | rfl
  · exact (Blk.new w 9 #[strV x, strV y]).cell 0
  · exact (Blk.new w 9 #[strV x, strV y]).cell 1
theorem grown_mark (w : World) (cs : Array Value) (t : TypeId) (fr : Nat × Nat) : w.grownBy (w.alloc (.cells cs t fr)) none := World.grownBy_alloc w _ none

set_option maxRecDepth 100000 in
set_option maxHeartbeats 2000000 in
theorem alive_any (w : World) (B0 : Nat) (E : Nat → Addr) (he : ErrVars [3, 7, 16] w B0 E) (hB : B0 ≤ w.heap.size) : Calls Tryd.prog 8 #[] w fun e w' => e = .returned (.bool true) ∧ w.grownBy w' none := by
  have kc := fun (w : World) (C : Array Value) (n c : Nat) => Lib.run_convert_bytes_const (P := Tryd.prog) w 30 5 C n c Tryd.underlying30 Tryd.underlying5
  have HE := Lib.hid he
  have add : ∀ (W : World) (M p : Nat) (L : List (List UInt8)) (b : UInt8), PB W w.heap.size M p L → L.length ≤ 10 → isIn L [b] = false → Kept (fun k => w.heap.size ≤ k) w W → Calls Tryd.prog 12 #[.pointer (some ⟨p, 0, none⟩), .slice (some ⟨W.heap.size, 0, none⟩) 1 1] (W.alloc (.cells #[.int .u8 (b.toNat : Int)] 5 (1, 2))) fun e w' => e = .returned .nilIface ∧ PB w' w.heap.size w'.heap.size p (L ++ [[b]]) ∧ Kept (fun k => w.heap.size ≤ k) w w' := fun W M p L b h hL hb hk => by
    have hg := grown_mark W #[.int .u8 (b.toNat : Int)] 5 (1, 2)
    have hok := addE_ok (L := L) (x := [b]) (by simp) (by simp) hb (by omega)
    have hk2 := hk.next (Kept.of_grown (F := fun k => w.heap.size ≤ k) hg fun _ e => by cases e) (fun _ _ h => h)
    refine ((h.grown hg).add (by omega) B0 E (some ⟨W.heap.size, 0, none⟩) 1 [b] (bytes_mark W b _ _) (he.kept hk2 (fun k h => by omega)) hB).mono ?_
    rintro e w' ⟨rfl, h2, h3⟩
    rw [hok.2] at h2
    rw [hok.1]
    exact ⟨rfl, h2, hk2.next h3 (fun _ _ h => h)⟩
  have HA := Lib.hid add
  clear he hB add
  go_enter Tryd.func8, Tryd.ntmps8
  go_wp2_with fail
  refine (pool_new _).mono ?_
  rintro e w1 ⟨rfl, rfl⟩
  obtain ⟨wa, hwa⟩ : ∃ wa, w.alloc (.cells #[.slice none 0 0] 58) = wa := ⟨_, rfl⟩
  obtain ⟨p, hp⟩ : ∃ p, w.heap.size = p := ⟨_, rfl⟩
  have H0 : Hid (PB wa w.heap.size (w.heap.size + 1) p [] ∧ Kept (fun k => w.heap.size ≤ k) w wa) := Lib.hid (by
    rw [← hwa, ← hp]
    exact ⟨PB.new w (Nat.le_refl _), Kept.of_grown (World.grownBy_alloc w (.cells #[.slice none 0 0] 58) none) fun _ e => by cases e⟩)
  rw [hwa, hp]
  have HP := Lib.hid hp
  clear hwa hp
  go_wp2_with fail
  refine (HA.out wa _ p [] 97 H0.out.1 (by simp) rfl H0.out.2).mono ?_
  rintro e w2 ⟨rfl, h2, k2⟩
  have H2 := Lib.hid (And.intro h2 k2)
  clear h2 k2
  go_wp2_with fail
  refine (HA.out w2 _ p _ 98 H2.out.1 (by simp) (by decide) H2.out.2).mono ?_
  rintro e w3 ⟨rfl, h3, k3⟩
  have H3 := Lib.hid (And.intro h3 k3)
  clear h3 k3
  go_wp2_with fail
  refine (HA.out w3 _ p _ 99 H3.out.1 (by simp) (by decide) H3.out.2).mono ?_
  rintro e w4 ⟨rfl, h4, k4⟩
  have H4 := Lib.hid (And.intro h4 k4)
  clear h4 k4
  have hD : LsIn ((w4.alloc (.cells #[.int .u8 98] 5 (1, 2))).alloc (.cells #[.slice (some ⟨w4.heap.size, 0, none⟩) 1 1] 30)) (fun k => k < w4.heap.size + 2) (some ⟨w4.heap.size + 1, 0, none⟩) [[98]] := by
    have h := lsIn_one (d := 1) (bytes_mark w4 98 5 (1, 2)) (fun k => k < w4.heap.size + 2) (fun ad e _ => by injection e with e; subst e; show w4.heap.size < _; omega) (by simp)
    rw [World.size_alloc] at h
    exact h
  have hg5 : w4.grownBy ((w4.alloc (.cells #[.int .u8 98] 5 (1, 2))).alloc (.cells #[.slice (some ⟨w4.heap.size, 0, none⟩) 1 1] 30)) none := grown_trans (grown_mark w4 _ _ _) (World.grownBy_alloc _ _ none)
  have hz5 : ((w4.alloc (.cells #[.int .u8 98] 5 (1, 2))).alloc (.cells #[.slice (some ⟨w4.heap.size, 0, none⟩) 1 1] 30)).heap.size = w4.heap.size + 2 := by simp
  have H5 := Lib.hid (And.intro hD (And.intro hg5 hz5))
  clear hD hg5 hz5
  go_wp2_with fail
  have ht : takeL 2 [[98]] [[97], [98], [99]] = [[97], [99]] := by decide
  refine (pool_take _ _ (fun k => k < w4.heap.size + 2) p _ ((H4.out.1.grown H5.out.2.1).1) (by simp) (by simp) 2 _ 1 1 [[98]] rfl (by omega) H5.out.1 (fun k h => by rw [H5.out.2.2]; exact h)).mono ?_
  rintro e w6 ⟨A6, c6, zs6, rfl, hr6, hs6, k6⟩
  have ht' : takeL 2 [[98]] (([] ++ [[97]]) ++ [[98]] ++ [[99]]) = [[97], [99]] := by decide
  rw [ht'] at hr6 hs6 ⊢
  have hls := hr6.ls
  rw [hs6] at hls
  have H6 := Lib.hid (And.intro hls (grown_trans H5.out.2.1 k6))
  clear hr6 hs6 k6 ht ht' hls
  go_wp2_with fail
  refine (texts_is w6 A6 2 c6 [[97], [99]] rfl (by omega) H6.out.1).mono ?_
  rintro e w7 ⟨A7, c7, rfl, h7, k7⟩
  have H7 := Lib.hid (And.intro (strs_own h7) (grown_trans H6.out.2 k7))
  clear h7 k7
  go_wp2_with fail
  have hg8 := World.grownBy_alloc w7 (.cells #[strV [97], strV [99]] 9) none
  refine (sametexts_is _ A7 (some ⟨w7.heap.size, 0, none⟩) c7 2 2 [[97], [99]] rfl (by omega) (H7.out.1.grown hg8) (strs_two w7 [97] [99])).mono ?_
  rintro e w9 ⟨rfl, k9⟩
  have H9 := Lib.hid (grown_trans H7.out.2 (grown_trans hg8 k9))
  clear k9 hg8
  go_wp2_with fail
  go_ret
  have hh := H4.out.2.next (Kept.of_grown (F := fun _ => False) H9.out fun _ e => by cases e) (fun _ _ h => h.elim)
  exact ⟨rfl, hh.grownNone (fun k hk h => by omega)⟩
end Go.Proofs.YtnhjokcjdjfijaaDoor
