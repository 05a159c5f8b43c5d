/-
  The law's own 'alive': it answers true, and turns nothing that was there. What 'string(b)' is.
-/
import Derived.Test.YtmmjpkijnecmcaaDoorWire2
import Derived.Test.YtmmjpkijnecmcaaDoorNum
import Derived.Laws.BytesArg
import Derived.Lib.SlBytesConst
namespace Go.Proofs.YtmmjpkijnecmcaaDoor
open Go.RowKit

theorem toString_any {w : World} {A : Option Addr} {n c : Nat} {l : List UInt8} (hb : BytesAt w A l) (hn : l.length = n) :
    (convert 27 9 (.slice A n c)).run Tryd.prog w = .ok (.string ⟨l.toArray⟩) w := by
  subst hn
  rcases A with _ | ad
  · have hl0 : l = [] := by
      rcases l with _ | ⟨x, r⟩
      · rfl
      · obtain ⟨_, h, _⟩ := hb (by simp)
        cases h
    subst hl0
    exact run_convert_bytes_nil w 27 5 Tryd.underlying27 Tryd.underlying5 _ _ 9 Tryd.underlying9
  · refine run_convert_bytes_back w 27 9 5 ad c l Tryd.underlying27 Tryd.underlying5 Tryd.underlying9 fun j hj => ?_
    obtain ⟨ad', h, hc⟩ := hb (by intro e; subst e; simp at hj)
    injection h with h
    subst h
    exact hc j hj
theorem upTo_fresh {F : Nat → Prop} {a b : Nat} (h : ¬ F b) : ¬ upTo F a b b := by
  rintro (hf | ⟨_, h2⟩)
  · exact h hf
  · omega
theorem be_alive : ([] : List UInt8) ++ be 2 258 ++ (be 2 2 ++ [97, 98]) = [1, 2, 0, 2, 97, 98] := by decide

set_option maxHeartbeats 400000 in
theorem alive_any (w : World) : Calls Tryd.prog 10 #[] w fun e w' => e = .returned (.bool true) ∧ w.grownBy w' none := by
  have kc := fun (w : World) (C : Array Value) (n c : Nat) => Lib.run_convert_bytes_const (P := Tryd.prog) w 27 5 C n c Tryd.underlying27 Tryd.underlying5
  go_enter Tryd.func10, Tryd.ntmps10
  go_wp2_with fail
  refine (new_ok _).mono ?_
  rintro e w1 ⟨rfl, rfl⟩
  have hw1 := WrIs.new w (F := fun k => k = w.heap.size) rfl
  have k1 := (Kept.refl (fun k => k = w.heap.size) w).alloc (.cells #[.nilIface, .slice none 0 0] 64)
  have z1 : (w.alloc (.cells #[.nilIface, .slice none 0 0] 64)).heap.size = w.heap.size + 1 := by simp
  generalize w.alloc (.cells #[.nilIface, .slice none 0 0] 64) = w1 at *
  have Z1 := Lib.hid z1
  clear z1
  go_wp2_with fail
  refine (number_ok _ _ _ _ 258 2 hw1 (by omega) (by omega) (by omega) (by simp)).mono ?_
  rintro e w2 ⟨rfl, hw2, k2⟩
  have hb2 : BytesAt (w2.alloc (.cells #[.int .u8 97, .int .u8 98] 5 (2, 3))) (some ⟨w2.heap.size, 0, none⟩) [97, 98] := fun _ => by
    refine ⟨_, rfl, fun j hj => ?_⟩
    have : j = 0 ∨ j = 1 := by simp at hj; omega
    rcases this with rfl | rfl
    · exact World.cell?_alloc_mark w2 _ _ _ 0
    · exact World.cell?_alloc_mark w2 _ _ _ 1
  have k3 := (k1.trans (k2.mono fun k _ h => .inl h)).alloc (.cells #[.int .u8 97, .int .u8 98] 5 (2, 3))
  have hw3 := hw2.alloc (.cells #[.int .u8 97, .int .u8 98] 5 (2, 3))
  have s2 := k2.size
  have z1 := Z1.out
  go_wp2_with fail
  refine (bytes_ok _ _ _ _ _ 2 _ 9 [97, 98] rfl hw3 hb2 ?_ ?_ (by omega) (by omega)).mono ?_
  · rintro ad he _
    injection he with he
    subst he
    have z1 := Z1.out
    refine upTo_fresh ?_
    show ¬ w2.heap.size = w.heap.size
    omega
  · simp [be_length]
  rintro e w4 ⟨rfl, hw4, k4⟩
  have k5 := k3.trans (k4.mono (G := upTo (fun k => k = w.heap.size) w.heap.size (w2.alloc (.cells #[.int .u8 97, .int .u8 98] 5 (2, 3))).heap.size) ?_)
  · clear hb2 k3 hw3
    go_wp2_with fail
    rw [be_alive] at hw4
    refine (done_ok _ _ _ _ hw4 (by simp)).mono ?_
    rintro e w5 ⟨A, c, rfl, hown5, k6⟩
    have hs := toString_any (own_bytesAt hown5) (n := 6) (c := c) rfl
    go_wp2_with fail
    go_ret
    refine ⟨rfl, grown_trans (k5.grownNone fun k hk => by omega) k6⟩
  · rintro k hk (h | h)
    · exact .inl h
    · exact .inr ⟨by omega, hk⟩
end Go.Proofs.YtmmjpkijnecmcaaDoor
