/-
  quoratenum.Bytes: a copy with marked room behind it.
-/
import Derived.OwnWalk
import Derived.Test.YtilfapibfadbfaaDoorRfO
import Derived.Test.YtilfapibfadbfaaDoorBaseA
namespace Go.Proofs.YtilfapibfadbfaaDoor
open Go.RowKit

def markL : List UInt8 := [201, 202, 203, 204, 205, 206]
/-- Block g has these bytes, and the six marks behind them. -/
def Marked (w : World) (g cap : Nat) (xb : List UInt8) : Prop := ∃ cs, Blk w g 5 cs ∧ cs.size = cap ∧ xb.length + 6 ≤ cap ∧ cs.toList.take (xb.length + 6) = (xb ++ markL).map fun b => Value.int .u8 b.toNat
section
variable {w w' : World} {g cap : Nat} {xb : List UInt8}
theorem Marked.grown {row : Option Nat} (h : Marked w g cap xb) (hg : w.grownBy w' row) (hr : some g ≠ row) : Marked w' g cap xb := by
  obtain ⟨cs, h1, h2⟩ := h
  exact ⟨cs, h1.grown hg hr, h2⟩
theorem Marked.lt (h : Marked w g cap xb) : g < w.heap.size := by obtain ⟨cs, h1, _⟩ := h; exact h1.lt
theorem Marked.cap_le (h : Marked w g cap xb) : xb.length + 6 ≤ cap := by obtain ⟨cs, _, _, h1, _⟩ := h; exact h1
theorem Marked.cellAt (h : Marked w g cap xb) (j : Nat) (b : UInt8) (hb : (xb ++ markL)[j]? = some b) : w.cell? ⟨g, j, none⟩ = some (.int .u8 b.toNat) := by
  obtain ⟨cs, h1, h2, h3, h4⟩ := h
  have hj : j < xb.length + 6 := by
    have := (List.getElem?_eq_some_iff.1 hb).1
    simpa [markL] using this
  rw [h1.cell, ← Array.getElem?_toList]
  have e : (cs.toList.take (xb.length + 6))[j]? = cs.toList[j]? := by rw [List.getElem?_take, if_pos hj]
  rw [← e, h4, List.getElem?_map, hb]; rfl
theorem Marked.bytes (h : Marked w g cap xb) : BytesAt w (some ⟨g, 0, none⟩) xb := fun _ => ⟨_, rfl, fun j hj => by
  rw [show (⟨g, 0, none⟩ : Addr).add j = ⟨g, j, none⟩ by have := add_none g 0 j; rwa [Nat.zero_add] at this]
  exact h.cellAt j _ (by rw [List.getElem?_append_left hj, List.getElem?_eq_getElem hj])⟩
theorem Marked.room (h : Marked w g cap xb) (j : Nat) (hj : j < 6) : w.cell? ⟨g, xb.length + j, none⟩ = some (.int .u8 (201 + (j : Int))) := by
  have hc : j = 0 ∨ j = 1 ∨ j = 2 ∨ j = 3 ∨ j = 4 ∨ j = 5 := by omega
  have := fun (b : UInt8) (hb : markL[j]? = some b) => h.cellAt (xb.length + j) b (by rw [List.getElem?_append_right (by omega), Nat.add_sub_cancel_left]; exact hb)
  rcases hc with rfl | rfl | rfl | rfl | rfl | rfl <;> exact this _ rfl
end
theorem BytesAt.str {w : World} {A : Option Addr} {l : List UInt8} (h : BytesAt w A l) (cap n : Nat) (hn : l.length = n) : Sem.run Tryd.prog (convert 22 9 (.slice A n cap)) w = .ok (.string ⟨l.toArray⟩) w :=
  str_run w A n cap ⟨l.toArray⟩ (by rw [← hn]; rfl) (by rw [xsOf_mk]; exact BytesI.of h)

set_option maxRecDepth 100000 in
set_option maxHeartbeats 2000000 in
theorem nbytes_is (w : World) (A : Option Addr) (n c : Nat) (xb : List UInt8) (hx : BytesAt w A xb) (hn : xb.length = n) (hm : n ≤ 1000000) :
    Calls Tryd.prog 21 #[.slice A n c] w fun e w' => ∃ g cap, e = .returned (.slice (some ⟨g, 0, none⟩) n cap) ∧ w.heap.size ≤ g ∧ Marked w' g cap xb ∧ w.grownBy w' none := by
  obtain ⟨i0, hi0, hz0, hz1, hz2⟩ := info_parts u8i
  have HI0 := Lib.hid (And.intro hi0 (And.intro hz0 (And.intro hz1 hz2)))
  have HX := Lib.hid (And.intro hx (And.intro hn hm))
  have hb1 : wrap64 ((n : Int) + 6) = (n : Int) + 6 := w64 _ ⟨by omega, by omega⟩
  have hb2 : (n : Int) ≤ 1000000 := by omega
  clear hi0 hz0 hz1 hz2 hx hn hm
  go_enter Tryd.func21, Tryd.ntmps21
  go_wp2_with (first
    | (at_make
       refine wpList_make_own _ rfl _ _ 22 rfl w.heap.size 5 i0 (.int .u8 0) 1 Tryd.underlying22 HI0.out.1 HI0.out.2.1 HI0.out.2.2.1 _ _ _ (n + 6) rfl rfl (by omega) (by rw [HI0.out.2.2.2]; omega) (by simp only [maxLen]; omega) (Nat.le_refl _) ?_
       intro w1 hown1 hk1
       have HO1 := Lib.hid hown1
       have HK1 := Lib.hid hk1
       clear hown1 hk1)
    | (at_builtin
       refine wpList_append_bytes _ rfl _ _ 22 rfl w.heap.size 5 i0 (.int .u8 0) Tryd.underlying22 HI0.out.1 HI0.out.2.1 HI0.out.2.2.1 HI0.out.2.2.2 rfl _ 0 [] rfl HO1.out A c xb (by rw [HX.out.2.1]; rfl) (HX.out.1.grown HK1.out (by simp)) (by have := HX.out.2; omega) HK1.out.size ?_
       intro A2 cap2 w2 hown2 hk2 hat
       rw [HX.out.2.1, Nat.zero_add] at hown2 ⊢
       have HO2 := Lib.hid hown2
       have HK2 := Lib.hid (grown_off HK1.out hk2 (Nat.le_refl _))
       clear hown2 hk2 hat)
    | (at_builtin
       refine wpList_append_bytes _ rfl _ _ 22 rfl w.heap.size 5 i0 (.int .u8 0) Tryd.underlying22 HI0.out.1 HI0.out.2.1 HI0.out.2.2.1 HI0.out.2.2.2 rfl (.slice A2 n cap2) _ _ rfl (HO2.out.alloc _) (some ⟨w2.heap.size, 0, none⟩) 6 markL rfl (fun _ => ⟨_, rfl, fun j hj => by
          have hc : j = 0 ∨ j = 1 ∨ j = 2 ∨ j = 3 ∨ j = 4 ∨ j = 5 := by have : j < 6 := hj; omega
          rcases hc with rfl | rfl | rfl | rfl | rfl | rfl <;> exact (Blk.new w2 5 #[.int .u8 201, .int .u8 202, .int .u8 203, .int .u8 204, .int .u8 205, .int .u8 206]).cell _⟩) (by have := HX.out.2; simp only [markL, List.length_cons, List.length_nil]; omega) (Nat.le_trans HK2.out.size (by simp)) ?_
       intro A3 cap3 w3 hown3 hk3 hat
       obtain ⟨g3, rfl, hg3, hM3⟩ : ∃ g3, A3 = some ⟨g3, 0, none⟩ ∧ w.heap.size ≤ g3 ∧ Marked w3 g3 cap3 xb := by
         rcases hown3.2 with ⟨_, h0⟩ | ⟨g, cap', cur, hv, hb, hg, hnc, hcm, hsz, ht⟩
         · simp [markL] at h0
         · injection hv with e1 e2 e3
           subst e1 e3
           exact ⟨g, rfl, hb, cur, hg, by omega, by rw [HX.out.2.1]; exact hnc, by
             rw [HX.out.2.1]
             rw [Nat.mul_one] at ht
             rw [show n + 6 = n + markL.length from rfl, ht, List.nil_append, List.map_append]; rfl⟩
       have HM3 := Lib.hid (And.intro hg3 hM3)
       have hc3 : n + 6 ≤ cap3 := by have := hM3.cap_le; rw [HX.out.2.1] at this; exact this
       have HK3 := Lib.hid (show w.grownBy w3 none from by
         have := grown_trans HK2.out (World.grownBy_alloc w2 (.cells #[.int .u8 201, .int .u8 202, .int .u8 203, .int .u8 204, .int .u8 205, .int .u8 206] 5) none)
         cases hb : (Value.slice A2 n cap2).ownBlock with
         | none => rw [hb] at hk3; exact grown_trans this hk3
         | some ge => rw [hb] at hk3; exact grown_fresh this hk3 (HO2.out.lt ge hb).1)
       clear hown3 hk3 hat hg3 hM3))
  go_ret
  exact ⟨g3, cap3, rfl, HM3.out.1, HM3.out.2, HK3.out⟩

end Go.Proofs.YtilfapibfadbfaaDoor
