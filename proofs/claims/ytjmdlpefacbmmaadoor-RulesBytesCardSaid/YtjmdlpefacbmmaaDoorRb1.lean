/-
  RulesBytes: a state's bytes, written by the program and by the document.
-/
import Derived.Test.YtjmdlpefacbmmaaDoorRu2
import Derived.Test.YtjmdlpefacbmmaaDoorRu3
import Derived.Test.YtjmdlpefacbmmaaDoorWritten
namespace Go.Proofs.YtjmdlpefacbmmaaDoor
open Go.RowKit

/-- A state's bytes. -/
def stB (e v l p f : Nat) : List UInt8 := be 4 e ++ (be 6 v ++ (be 6 l ++ (be 6 p ++ be 1 f)))
theorem stB_len (e v l p f : Nat) : (stB e v l p f).length = 23 := by simp [stB, be_length]
theorem num_step (w : World) (N g : Nat) (l : List UInt8) (n width : Nat) (hN : N ≤ w.heap.size) (hw : WrIs w (fun b => N ≤ b) g .nilIface l) (h1 : 1 ≤ width) (h8 : width ≤ 8) (hn : n < 256 ^ width) (hl : l.length ≤ 100) :
    Calls Tryd.prog 32 #[.pointer (some ⟨g, 0, none⟩), .int .i64 (n : Int), .int .i64 (width : Int)] w fun e w' => e = .returned (.tuple #[]) ∧ WrIs w' (fun b => N ≤ b) g .nilIface (l ++ be width n) ∧ Kept (fun b => N ≤ b) w w' :=
  (number_ok w _ g l n width hw h1 h8 hn (by omega)).mono fun _ _ ⟨a, b, c⟩ => ⟨a, b.mono (fun k _ h => by
    rcases h with h | ⟨h, _⟩
    · exact h
    · exact Nat.le_trans hN h), c⟩

set_option maxRecDepth 100000 in
theorem sbytes_bad (w : World) (B : Nat) (E : Nat → Addr) (he : ErrEnv w B E) (e v l p f : Int) (h : rightB e v l p f = false) :
    Calls Tryd.prog 16 #[stV e v l p f] w fun en w' => en = .returned (.tuple #[.slice none 0 0, errV (E 3)]) ∧ w.grownBy w' none := by
  have ka := World.grownBy_alloc w (.cells (stC e v l p f) 23) none
  have Ha := Lib.hid he
  clear he
  go_enter Tryd.func16, Tryd.ntmps16
  go_wp2_with fail
  refine (right_is _ _ _ _ _ _).mono ?_
  rw [h]
  rintro en w1 ⟨rfl, k1⟩
  have g3 := ((Ha.out.grown ka (by simp)).grown k1 (by simp)).form
  have kk := grown_trans ka k1
  clear h
  go_wp2_with fail
  go_region
  all_goals
    go_wp2_with fail
    go_ret2
    exact ⟨rfl, grown_drew kk⟩

set_option maxRecDepth 100000 in
set_option maxHeartbeats 1000000 in
theorem sbytes_ok (w : World) (e v l p f : Nat) (h : rightB e v l p f = true) :
    Calls Tryd.prog 16 #[stV e v l p f] w fun en w' => ∃ A c, en = .returned (.tuple #[.slice A 23 c, .nilIface]) ∧ BytesAt w' A (stB e v l p f) ∧ w.grownBy w' none := by
  have hr := right_yes _ _ _ _ _ h
  have i0 := fun w => (idx3 (.int .i64 (v : Int)) (.int .i64 (l : Int)) (.int .i64 (p : Int)) w).1
  have i1 := fun w => (idx3 (.int .i64 (v : Int)) (.int .i64 (l : Int)) (.int .i64 (p : Int)) w).2.1
  have i2 := fun w => (idx3 (.int .i64 (v : Int)) (.int .i64 (l : Int)) (.int .i64 (p : Int)) w).2.2
  have HR := Lib.hid hr
  clear hr
  have ka := World.grownBy_alloc w (.cells (stC e v l p f) 23) none
  have hb := Blk.new w 23 (stC e v l p f)
  go_enter Tryd.func16, Tryd.ntmps16
  go_wp2_with fail
  refine (right_is _ _ _ _ _ _).mono ?_
  rw [h]
  rintro en w1 ⟨rfl, k1⟩
  have hb1 := hb.grown k1 (by simp)
  have KW : Kept (fun _ => False) w w1 := Kept.of_grown (grown_trans ka k1) (fun _ e => by cases e)
  have hlt := hb1.lt
  clear hb ka k1 h
  go_wp2_with fail
  refine (new_ok _).mono ?_
  rintro en w2 ⟨rfl, rfl⟩
  have hW : WrIs (w1.alloc (.cells #[.nilIface, .slice none 0 0] 77)) (fun b => w1.heap.size ≤ b) w1.heap.size .nilIface [] := WrIs.new w1 (F := fun b => w1.heap.size ≤ b) (Nat.le_refl _)
  have hb2 := hb1.alloc (.cells #[.nilIface, .slice none 0 0] 77)
  have KW2 := KW.alloc (.cells #[.nilIface, .slice none 0 0] 77)
  have hz2 : w1.heap.size ≤ (w1.alloc (.cells #[.nilIface, .slice none 0 0] 77)).heap.size := by simp
  have c0 : (w1.alloc (.cells #[.nilIface, .slice none 0 0] 77)).cell? ⟨w.heap.size, 0, none⟩ = some (.int .i64 (e : Int)) := hb2.cell 0
  clear hb1 KW
  go_wp2_with fail
  generalize w1.alloc (.cells #[.nilIface, .slice none 0 0] 77) = w2 at *
  generalize w1.heap.size = N at *
  refine (num_step w2 N N [] e 4 hz2 hW (by omega) (by omega) (by have := HR.out; omega) (by simp)).mono ?_
  rintro en w3 ⟨rfl, hW3, k3⟩
  have hb3 := hb2.kept k3 (by omega)
  have hz3 := Nat.le_trans hz2 k3.size
  have KW3 := KW2.follow k3 (fun j hj h => by omega)
  have a0 := hb3.cell 0
  have a1 := hb3.cell 1
  have a2 := hb3.cell 2
  have a3 := hb3.cell 3
  have a4 := hb3.cell 4
  simp at a0 a1 a2 a3 a4
  clear c0 hb2 hz2 hW KW2 k3
  go_wp2_with fail
  refine (rounds_is _ _ _ _ _ _).mono ?_
  rintro en w4 ⟨rfl, k4⟩
  have hW4 := hW3.grown k4
  have hb4 := hb3.grown k4 (by simp)
  have hz4 := Nat.le_trans hz3 k4.size
  have KW4 := KW3.follow (Kept.of_grown (F := fun _ => False) k4 (fun _ e => by cases e)) (fun _ _ h => h)
  clear a0 a1 a2 a3 a4 hb3 hz3 hW3 KW3 k4
  go_wp2_with fail
  refine wp_loop_rounds 4 ?_
  rw [rounds_succ]
  go_wp2_with fail
  refine (num_step w4 N N _ v 6 hz4 hW4 (by omega) (by omega) (by have := HR.out; omega) (by simp [be_length])).mono ?_
  rintro en w5 ⟨rfl, hW5, k5⟩
  have hb5 := hb4.kept k5 (by omega)
  have hz5 := Nat.le_trans hz4 k5.size
  have KW5 := KW4.follow k5 (fun j hj h => by omega)
  clear hb4 hz4 hW4 KW4 k5
  go_wp2_with fail
  rw [rounds_succ]
  go_wp2_with fail
  refine (num_step w5 N N _ l 6 hz5 hW5 (by omega) (by omega) (by have := HR.out; omega) (by simp [be_length])).mono ?_
  rintro en w6 ⟨rfl, hW6, k6⟩
  have hb6 := hb5.kept k6 (by omega)
  have hz6 := Nat.le_trans hz5 k6.size
  have KW6 := KW5.follow k6 (fun j hj h => by omega)
  clear hb5 hz5 hW5 KW5 k6
  go_wp2_with fail
  rw [rounds_succ]
  go_wp2_with fail
  refine (num_step w6 N N _ p 6 hz6 hW6 (by omega) (by omega) (by have := HR.out; omega) (by simp [be_length])).mono ?_
  rintro en w7 ⟨rfl, hW7, k7⟩
  have hb7 := hb6.kept k7 (by omega)
  have hz7 := Nat.le_trans hz6 k7.size
  have KW7 := KW6.follow k7 (fun j hj h => by omega)
  have a4 : w7.cell? ⟨w.heap.size, 4, none⟩ = some (.int .i64 (f : Int)) := hb7.cell 4
  clear hb6 hz6 hW6 KW6 k7
  go_wp2_with fail
  rw [rounds_succ]
  go_wp2_with fail
  refine (num_step w7 N N _ f 1 hz7 hW7 (by omega) (by omega) (by have := HR.out; omega) (by simp [be_length])).mono ?_
  rintro en w8 ⟨rfl, hW8, k8⟩
  have KW8 := KW7.follow k8 (fun j hj h => by omega)
  obtain ⟨L, hL⟩ : ∃ L, L = stB e v l p f := ⟨_, rfl⟩
  have hW9 : WrIs w8 (fun b => N ≤ b) N .nilIface L := by
    rw [hL]
    simpa [stB, List.append_assoc] using hW8
  have hlen : L.length = 23 := by rw [hL]; exact stB_len _ _ _ _ _
  have HL := Lib.hid (And.intro hL hlen)
  clear a4 hb7 hz7 hW7 KW7 k8 hW8 hL
  go_wp2_with fail
  refine (done_ok w8 _ N L hW9 (by omega)).mono ?_
  rintro en w9 ⟨A, c, rfl, hown, k9⟩
  have HO := Lib.hid (own_bytesAt hown)
  rw [HL.out.2]
  clear hown hlen
  go_wp2_with fail
  go_ret2
  refine ⟨A, c, rfl, ?_, ?_⟩
  · rw [← HL.out.1]; exact HO.out
  · exact (KW8.follow (Kept.of_grown (F := fun _ => False) k9 (fun _ e => by cases e)) (fun _ _ h => h)).none_grown
end Go.Proofs.YtjmdlpefacbmmaaDoor
