/-
  script.Text.
-/
import Derived.Test.YtonkdcbmmdhjgaaGreatDoorScO
namespace Go.Proofs.YtonkdcbmmdhjgaaGreatDoor
open Go.RowKit Go.Shelf

/-- A row of ops. -/
def OpRow (w : World) (A : Option Addr) (os : List OpM) : Prop := os ≠ [] → ∃ b off, A = some ⟨b, off, none⟩ ∧ ∀ k (h : k < os.length), w.rangeAt b (off + k * 6) os[k].val.toList
theorem OpRow.gr {w w' : World} {A : Option Addr} {os : List OpM} (h : OpRow w A os) (g : w.grownBy w' none) : OpRow w' A os := fun hne => by
  obtain ⟨b, off, rfl, hc⟩ := h hne
  exact ⟨b, off, rfl, fun k hk j v hv => g.cell (hc k hk j v hv) (by simp)⟩
theorem lineT_le {o : OpV} (h : o.Fit) : (lineT o).length ≤ 400000 := by
  unfold lineT
  have h1 := joinP_le (B := 80000) 32 ((shapeS o.kind).1 :: (shapeS o.kind).2.map (writeS o)) (fun p hp => by
    rcases List.mem_cons.1 hp with rfl | hp
    · have := word_le o.kind; omega
    · obtain ⟨c, _, rfl⟩ := List.mem_map.1 hp
      exact writeS_le h c)
  have h2 := shape_le o.kind
  simp only [List.length_cons, List.length_map] at h1
  omega
theorem textT_snoc (a : List OpV) (o : OpV) : textT (a ++ [o]) = textT a ++ (lineT o ++ [10]) := by
  rw [textT_append]; simp [textT]
theorem textT_le : ∀ os : List OpV, (∀ o ∈ os, o.Fit) → (textT os).length ≤ 400001 * os.length
  | [], _ => by simp [textT]
  | o :: r, h => by
    have h1 := textT_le r fun x hx => h x (List.mem_cons_of_mem _ hx)
    have h2 := lineT_le (h o (by simp))
    simp only [textT, List.length_append, List.length_cons, Nat.mul_add, Nat.mul_one]
    omega
/-- The strings of the lines. -/
def linesB (os : List OpV) : List ByteArray := os.flatMap fun o => [strB (lineT o), ⟨#[10]⟩]
theorem linesB_snoc (a : List OpV) (o : OpV) : linesB (a ++ [o]) = linesB a ++ [strB (lineT o), ⟨#[10]⟩] := by simp [linesB]
theorem linesB_join : ∀ os : List OpV, ((linesB os).map (·.data.toList)).flatten = textT os
  | [] => rfl
  | o :: r => by
    have := linesB_join r
    simp only [linesB, List.flatMap_cons, List.map_append, List.map_cons, List.map_nil, List.flatten_append, List.flatten_cons, List.flatten_nil, textT] at this ⊢
    rw [this, strB_list]
    simp
theorem join_flat : ∀ xs : List (List UInt8), Lib.join xs [] = xs.flatten
  | [] => rfl
  | x :: r => by rw [Lib.join_cons]; simp [Lib.joinTail]
/-- What Text leaves. -/
def TextPost (w : World) (EL EF : Addr) (os : List OpV) (e : Ending) (w' : World) : Prop := w.grownBy w' none ∧
  if ∀ o ∈ os, rightS o then if 65535 < (textT os).length then e = .returned (.tuple #[.string ⟨#[]⟩, errV EL]) else e = .returned (.tuple #[.string (strB (textT os)), .nilIface])
  else e = .returned (.tuple #[.string ⟨#[]⟩, errV EF])
set_option maxRecDepth 100000 in
set_option maxHeartbeats 2000000 in
theorem text_is (w : World) (he : ScEnv w) (EL EF : Addr) (hEL : ErrAt w w.heap.size 3 EL) (hEF : ErrAt w w.heap.size 0 EF) (A : Option Addr) (n c : Nat) (os : List OpM) (hn : os.length = n) (hr : OpRow w A os) (ho : ∀ o ∈ os, o.At w) (hf : ∀ o ∈ os, o.v.Fit) (hd : n ≤ 20000) :
    Calls Tryz.prog 11 #[.slice A n c] w (TextPost w EL EF (os.map (·.v))) := by
  obtain ⟨i0, hi0, hz0, hz1, hz2⟩ := info_parts str_infoS
  have HI0 := Lib.hid (And.intro hi0 (And.intro hz0 (And.intro hz1 hz2)))
  obtain ⟨Q, hQ⟩ : ∃ Q, Q = TextPost w EL EF (os.map (·.v)) := ⟨_, rfl⟩
  rw [← hQ]
  have HQ := Lib.hid hQ
  have HX := Lib.hid (And.intro hn (And.intro hr (And.intro ho hf)))
  have HE := Lib.hid (And.intro he (And.intro hEL hEF))
  clear hi0 hz0 hz1 hz2 hQ hn hr ho hf he hEL hEF
  go_enter Tryz.func11, Tryz.ntmps11
  go_wp2_with fail
  go_loopw [4, 5, 12] (fun v s i wr => ∃ k : Nat, k ≤ n ∧ i = .int .i64 (k : Int) ∧ s = .int .i64 ((textT ((os.take k).map (·.v))).length : Int) ∧ Hid (wr.ownsRow w.heap.size 9 1 v (2 * k) ((linesB ((os.take k).map (·.v))).map Value.string) ∧ w.grownBy wr none ∧ ∀ o ∈ os.take k, rightS o.v)) (fun _ _ i _ => n - (intOf i).toNat)
  case atStart => exact ⟨0, Nat.zero_le _, rfl, rfl, Lib.hid ⟨World.ownsRow_nil _ _ _ _, World.grownBy.refl _ _, by simp⟩⟩
  case round =>
    obtain ⟨k, hk, rfl, rfl, HI⟩ := hrel
    rename World => wr
    by_cases hlt : k < n
    · have d1 : decide ((k : Int) < (n : Int)) = true := by simp; omega
      have hkd : k < os.length := by rw [HX.out.1]; exact hlt
      obtain ⟨b, off, rfl, hcs⟩ := (HX.out.2.1.gr HI.out.2.1) (by intro e; rw [e] at hkd; simp at hkd)
      obtain ⟨x, hx⟩ : ∃ x, x = os[k] := ⟨_, rfl⟩
      have hr0 := hcs k hkd
      rw [← hx] at hr0
      have c0 : wr.cell? ⟨b, off + k * 6, none⟩ = some (.int .i64 x.v.kind) := hr0 0 _ rfl
      have c1 : wr.cell? ⟨b, off + k * 6 + 1, none⟩ = some (.int .i64 x.v.node) := hr0 1 _ rfl
      have c2 : wr.cell? ⟨b, off + k * 6 + 2, none⟩ = some (.int .i64 x.v.n) := hr0 2 _ rfl
      have c3 : wr.cell? ⟨b, off + k * 6 + 3, none⟩ = some (.slice x.A1 x.v.set.length x.c1) := hr0 3 _ rfl
      have c4 : wr.cell? ⟨b, off + k * 6 + 4, none⟩ = some (.slice x.A2 x.v.keep.length x.c2) := hr0 4 _ rfl
      have c5 : wr.cell? ⟨b, off + k * 6 + 5, none⟩ = some (.slice x.A3 x.v.data.length x.c3) := hr0 5 _ rfl
      have hxq : os[k]? = some x := by rw [hx]; exact List.getElem?_eq_getElem hkd
      have hxm : x ∈ os := by rw [hx]; exact List.getElem_mem hkd
      have HXX := Lib.hid (And.intro hxq hxm)
      clear hcs hr0 hx hkd hxq hxm
      obtain ⟨TL, hTL⟩ : ∃ TL : Int, TL = ((textT ((os.take k).map (·.v))).length : Int) := ⟨_, rfl⟩
      rw [← hTL]
      have HTL := Lib.hid hTL
      clear hTL
      go_wp2_with fail
      have ga := World.grownBy_alloc wr (.cells #[.int .i64 x.v.kind, .int .i64 x.v.node, .int .i64 x.v.n, .slice x.A1 x.v.set.length x.c1, .slice x.A2 x.v.keep.length x.c2, .slice x.A3 x.v.data.length x.c3] 29) none
      have gw := grown_trans HI.out.2.1 ga
      refine (line_is _ (HE.out.1.grown gw) EF ⟨gw.cell HE.out.2.2.1 (by simp), Nat.lt_of_lt_of_le HE.out.2.2.2 gw.size⟩ x ((HX.out.2.2.1 x HXX.out.2).gr gw) (HX.out.2.2.2 x HXX.out.2)).mono ?_
      rintro e w2 ⟨k2, hpost⟩
      have HG := Lib.hid (And.intro (grown_trans ga k2) (grown_trans gw k2))
      clear ga gw k2
      rw [lineS_eq] at hpost
      by_cases hri : rightS x.v
      · rw [if_pos hri] at hpost
        subst hpost
        have hll : (lineT x.v).length ≤ 400000 := lineT_le (HX.out.2.2.2 x HXX.out.2)
        have htl : (textT ((os.take k).map (·.v))).length ≤ 400001 * k := by
          have := textT_le ((os.take k).map (·.v)) (fun o ho => by
            obtain ⟨y, hy, rfl⟩ := List.mem_map.1 ho
            exact HX.out.2.2.2 y (List.mem_of_mem_take hy))
          rw [List.length_map, List.length_take] at this
          have h9 : min k os.length ≤ k := Nat.min_le_left _ _
          exact Nat.le_trans this (Nat.mul_le_mul_left _ h9)
        obtain ⟨S, hS⟩ : ∃ S, S = strB (lineT x.v) := ⟨_, rfl⟩
        have hSz : (S.size : Int) = ((lineT x.v).length : Int) := by rw [hS, strB_size]
        have hTb : 0 ≤ TL ∧ TL ≤ 8000020000 := by have := HTL.out; omega
        have hSb : (S.size : Int) ≤ 400000 := by omega
        have HR := Lib.hid (And.intro hri (And.intro hS hSz))
        have HO := Lib.hid (own_gr HI.out.1 HG.out.1)
        rw [← hS]
        clear hri hS hll htl hSz
        have hrun : ∃ v' w', (Builtin.append_ #[58, 58] 58 #[u4, .slice (some ⟨w2.heap.size, 0, none⟩) 2 2]).run Tryz.prog (w2.alloc (.cells #[.string S, .string ⟨#[10]⟩] 9)) = .ok v' w' ∧ w'.ownsRow w.heap.size 9 1 v' (2 * k + 2) ((linesB ((os.take k).map (·.v))).map Value.string ++ [.string S, .string ⟨#[10]⟩]) ∧ w2.grownBy w' u4.ownBlock :=
          push_run w2 58 58 9 9 i0 (.string ByteArray.empty) 16 Tryz.underlying58 HI0.out.1 HI0.out.2.1 HI0.out.2.2.1 HI0.out.2.2.2 rfl w.heap.size u4 (2 * k) _ HO.out [.string S, .string ⟨#[10]⟩] (by simp [Value.oneCell']) (by omega) (by simp) (by omega) HG.out.2.size
        obtain ⟨v', w3, hrun, hown3, hgrow⟩ := hrun
        have HO3 := Lib.hid hown3
        have HK3 := Lib.hid (grown_own HG.out.2 hgrow HO.out (Nat.le_refl _))
        clear hown3 hgrow
        go_wp2_with (at_builtin
                     refine wpList_plain rfl fun K9 hK9 => wp_append rfl rfl rfl hrun (hK9 _ _ ?_))
        go_roundw
        case rel =>
          obtain ⟨hri, hS, hSz⟩ := HR.out
          have htk : os.take (k + 1) = os.take k ++ [x] := by rw [List.take_add_one, HXX.out.1]; rfl
          refine ⟨k + 1, by omega, rfl, ?_, Lib.hid ⟨?_, HK3.out, fun o ho => ?_⟩⟩
          · rw [htk, List.map_append, List.map_cons, List.map_nil, textT_snoc, List.length_append, List.length_append, List.length_singleton, HTL.out, hSz]
            congr 1
          · rw [htk, List.map_append, List.map_cons, List.map_nil, linesB_snoc, List.map_append, ← hS]
            exact HO3.out
          · rw [htk] at ho
            rcases List.mem_append.1 ho with ho | ho
            · exact HI.out.2.2 o ho
            · obtain rfl : o = x := by simpa using ho
              exact hri
        case measure => simp [intOf]; omega
      · rw [if_neg hri] at hpost
        subst hpost
        have HN := Lib.hid hri
        clear hri
        go_wp2_with fail
        rw [HQ.out]
        refine ⟨HG.out.2, ?_⟩
        rw [if_neg (fun h => HN.out (h x.v (List.mem_map.2 ⟨x, HXX.out.2, rfl⟩)))]
        rfl
    · have d1 : decide ((k : Int) < (n : Int)) = false := by simp; omega
      obtain rfl : k = n := by omega
      have htk : os.take k = os := List.take_of_length_le (by rw [HX.out.1]; exact Nat.le_refl _)
      rw [htk] at HI ⊢
      have hall : ∀ o ∈ os.map (·.v), rightS o := fun o ho => by
        obtain ⟨y, hy, rfl⟩ := List.mem_map.1 ho
        exact HI.out.2.2 y hy
      have htl : (textT (os.map (·.v))).length ≤ 400001 * k := by
        have := textT_le (os.map (·.v)) (fun o ho => by
          obtain ⟨y, hy, rfl⟩ := List.mem_map.1 ho
          exact HX.out.2.2.2 y hy)
        rwa [List.length_map, HX.out.1] at this
      obtain ⟨TL, hTL⟩ : ∃ TL, TL = (textT (os.map (·.v))).length := ⟨_, rfl⟩
      rw [← hTL] at htl ⊢
      have HTL := Lib.hid (And.intro hTL hall)
      clear htk hall hTL
      by_cases hlo : 65535 < TL
      · have d2 : decide ((65535 : Int) < (TL : Int)) = true := by simp; omega
        have eL := HE.out.2.1.grown HI.out.2.1 (by simp)
        have c1 := Gr.cell eL.1
        clear eL htl
        go_upto_region 13 with (fail)
        refine wp_region_grown (by kernel_rfl) (by kernel_rfl) ?_
        repeat (go_big_quiet_step (fail))
        refine wpQuiet_nil ?_
        rintro w4 ⟨⟨_, k4⟩, rfl⟩
        have HK4 := Lib.hid (grown_trans HI.out.2.1 k4)
        clear k4 c1
        go_wp2_with fail
        rw [HQ.out]
        refine ⟨HK4.out, ?_⟩
        rw [if_pos HTL.out.2, if_pos (by rw [← HTL.out.1]; exact hlo)]
      · have d2 : decide ((65535 : Int) < (TL : Int)) = false := by simp; omega
        obtain ⟨B, m, rfl⟩ := own_slice _ HI.out.1
        have hJ := join_is wr w.heap.size B (2 * k) m (linesB (os.map (·.v))) ⟨#[]⟩ HI.out.1 (by omega) (by rw [show (⟨#[]⟩ : ByteArray).data.toList = [] from rfl, join_flat, linesB_join, ← HTL.out.1]; omega)
        rw [show (⟨#[]⟩ : ByteArray).data.toList = [] from rfl, join_flat, linesB_join] at hJ
        have HJ := Lib.hid hJ
        clear hJ htl
        go_wp2_with fail
        refine HJ.out.mono ?_
        rintro e w5 ⟨rfl, k5⟩
        have HK5 := Lib.hid (grown_trans HI.out.2.1 k5)
        clear k5
        go_wp2_with fail
        rw [HQ.out]
        refine ⟨HK5.out, ?_⟩
        rw [if_pos HTL.out.2, if_neg (by rw [← HTL.out.1]; exact hlo)]; rfl
end Go.Proofs.YtonkdcbmmdhjgaaGreatDoor
