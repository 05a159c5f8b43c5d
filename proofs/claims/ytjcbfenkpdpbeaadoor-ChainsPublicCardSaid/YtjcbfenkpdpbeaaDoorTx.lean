/-
  quorateref02.Text: a digest's bytes as a text.
-/
import Derived.Test.YtjcbfenkpdpbeaaDoorRfOf
import Derived.Test.YtjcbfenkpdpbeaaDoorAp
namespace Go.Proofs.YtjcbfenkpdpbeaaDoor
open Go.RowKit

theorem index16b (w : World) {I : Int} {cs : Array Value} {v : Value} (hb : 0 ≤ I ∧ I < 16) (hv : cs[I.toNat]? = some v) : Sem.run Tryd.prog (Instr.index 23 (.agg cs) (.int .i64 I)) w = .ok v w :=
  run_index_agg (n := 16) Tryd.underlying23 (by kernel_rfl) (by kernel_rfl) hb hv
theorem info16b : (Tryd.prog.info? 23).map (·.size) = some 16 := by kernel_rfl
theorem own_str {w : World} {base : Nat} {e : TypeId} {v : Value} {n : Nat} {L : List Int} (h : w.ownsRow base e 1 v n (L.map (Value.int .u8))) : ∃ A cap, v = .slice A n cap ∧ BytesI w A L ∧ n ≤ cap ∧ L.length = n := by
  have hl : L.length = n := by have := h.1; simpa using this
  rcases h.2 with ⟨rfl, h0⟩ | ⟨g, cap, cur, rfl, hb, hg, hnc, _, hsz, ht⟩
  · subst h0
    exact ⟨none, 0, rfl, fun hne => absurd (List.eq_nil_of_length_eq_zero hl) hne, Nat.le_refl _, hl⟩
  · refine ⟨_, cap, rfl, fun _ => ⟨_, rfl, fun j hj => ?_⟩, hnc, hl⟩
    rw [add_none, Nat.zero_add, Joins.cell_of_block hg j, ← Array.getElem?_toList]
    have e1 : (cur.toList.take (n * 1))[j]? = cur.toList[j]? := by rw [List.getElem?_take, if_pos (by omega)]
    rw [← e1, ht]
    simp [List.getD, List.getElem?_eq_getElem hj]

set_option maxRecDepth 100000 in
set_option maxHeartbeats 2000000 in
theorem text_is (w : World) (d : List Int) (hd : d.length = 16) (s : ByteArray) (hs : xsOf s = d) :
    Calls Tryd.prog 29 #[.agg (arrV .u8 d)] w fun e w' => e = .returned (.string s) ∧ w.grownBy w' none := by
  obtain ⟨i0, hi0, hz0, hz1, hz2⟩ := info_parts u8i
  have HI0 := Lib.hid (And.intro hi0 (And.intro hz0 (And.intro hz1 hz2)))
  obtain ⟨ds, hds⟩ : ∃ ds, ds = arrV .u8 d := ⟨_, rfl⟩
  have hsz : ds.size = 16 := by rw [hds, arr_size, hd]
  have HI := Lib.hid (show (Tryd.prog.info? 23).map (·.size) = some ds.size by rw [hsz]; exact info16b)
  have HD := Lib.hid (And.intro hds (And.intro hd hs))
  rw [← hds]
  clear hi0 hz0 hz1 hz2 hds hsz hd hs
  go_enter Tryd.func29, Tryd.ntmps29
  have HB := Lib.hid (Blk.new w 23 ds)
  have HO1 := Lib.hid (World.ownsRow_lit (base := w.heap.size) (e := 5) (size := 1) (w.alloc (.cells ds 23)) #[] 0 (by simp) (by decide) rfl)
  have HG1 := Lib.hid (grown_trans (World.grownBy_alloc w (.cells ds 23) none) (World.grownBy_alloc _ (.cells #[] 5) none))
  have HB2 := Lib.hid (HB.out.alloc (.cells #[] 5))
  go_wp2_with (refine wpList_load_row rfl 23 _ rfl w.heap.size rfl 23 ds (0, 0) _ HB2.out Tryd.underlying23 rfl HI.out ?_)
  go_loopw [3, 8] (fun v i wr => ∃ k : Nat, k ≤ 16 ∧ i = .int .i64 (k : Int) ∧ wr.ownsRow w.heap.size 5 1 v k ((d.take k).map (Value.int .u8)) ∧ w.grownBy wr none) (fun _ i _ => 16 - (intOf i).toNat)
  case atStart => exact ⟨0, by omega, rfl, by simpa using HO1.out, HG1.out⟩
  case round =>
    obtain ⟨k, hk, hi, hown, hK⟩ := hrel
    obtain ⟨I, hI⟩ : ∃ I : Int, I = (k : Int) := ⟨_, rfl⟩
    rw [← hI] at hi
    subst hi
    by_cases hlt : k < 16
    · have d1 : decide (I < 16) = true := by simp; omega
      obtain ⟨y, hy⟩ : ∃ y, y = d.getD k 0 := ⟨_, rfl⟩
      have hnx : d.take (k + 1) = d.take k ++ [y] := by rw [hy]; exact take_push' d k 0 (by rw [HD.out.2.1]; exact hlt)
      have kx := fun W => index16b W (I := I) (cs := ds) (v := .int .u8 y) ⟨by omega, by omega⟩ (by rw [HD.out.1, show I.toNat = k by omega, hy]; exact arr_get (by rw [HD.out.2.1]; exact hlt))
      have HI1 := Lib.hid (And.intro hI (And.intro hlt hnx))
      have HO := Lib.hid hown
      have HK := Lib.hid hK
      clear hI hlt hnx hy hown hK hk
      go_wp2_with (at_builtin
                   refine wpList_push rfl _ _ 56 rfl w.heap.size 5 5 i0 (.int .u8 0) 1 Tryd.underlying56 HI0.out.1 HI0.out.2.1 HI0.out.2.2.1 HI0.out.2.2.2 rfl _ _ _ rfl HO.out _ rfl rfl (by have := HI1.out.2.1; omega) (by omega) HK.out.size ?_
                   intro v' w3 hown3 hgrow
                   have HO3 := Lib.hid hown3
                   have HK3 := Lib.hid (grown_own HK.out hgrow HO.out (Nat.le_refl _))
                   clear hown3 hgrow)
      clear kx
      go_roundw
      case rel =>
        obtain ⟨hI, hlt, hnx⟩ := HI1.out
        exact ⟨k + 1, by omega, by rw [hI, w64 _ ⟨by omega, by omega⟩]; rfl, by rw [hnx, List.map_append]; exact HO3.out, HK3.out⟩
      case measure => obtain ⟨hI, hlt, _⟩ := HI1.out; simp only [intOf]; rw [w64 _ ⟨by omega, by omega⟩]; omega
    · have d1 : decide (I < 16) = false := by simp; omega
      obtain rfl : k = 16 := by omega
      rw [List.take_of_length_le (by rw [HD.out.2.1]; omega)] at hown
      obtain ⟨A', cap', rfl, hb, _, _⟩ := own_str hown
      have hcv := str_run wr A' 16 cap' s (by rw [← xsOf_length, HD.out.2.2, HD.out.2.1]) (by rw [HD.out.2.2]; exact hb)
      have HK := Lib.hid hK
      clear hI hlt hown hK hb hk
      go_wp2_with fail
      go_ret
      exact ⟨rfl, HK.out⟩
end Go.Proofs.YtjcbfenkpdpbeaaDoor
