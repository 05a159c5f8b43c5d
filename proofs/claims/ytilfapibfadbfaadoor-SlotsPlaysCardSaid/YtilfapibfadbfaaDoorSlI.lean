/-
  Slots: the chapter's example.
-/
import Derived.Test.YtilfapibfadbfaaDoorSlH
namespace Go.Proofs.YtilfapibfadbfaaDoor
open Go.RowKit Go.Maps

def sa1 : DkS := fmtZ (newS 2) 0
def sa2 : DkS := putZ sa1 0 0 [97]
def sa3 : DkS := putZ sa2 0 1 [98]
def sa4 : DkS := crashS sa3 []
theorem sa_facts : fmtE (newS 2) 0 = 0 ∧ putE sa1 0 0 [97] = 0 ∧ putE sa2 0 1 [98] = 0 ∧ sa4.off = false ∧ sa4.syn.length = 2 ∧ readS sa4 0 = slotL 2 [98] ∧ readS sa4 1 = slotL 1 [97] :=
  ⟨by kernel_rfl, by kernel_rfl, by kernel_rfl, by kernel_rfl, by kernel_rfl, by kernel_rfl, by kernel_rfl⟩
def saB : Nat → List UInt8
  | 0 => slotB 2 [98]
  | _ => slotB 1 [97]
theorem saB_sel : selK saB 2 = some (2, [98]) := by
  have h0 : parseS (saB 0) = some (2, [98]) := parse_slot (by omega) (by simp)
  have h1 : parseS (saB 1) = some (1, [97]) := parse_slot (by omega) (by simp)
  show selStep 1 (parseS (saB 1)) (selStep 0 (parseS (saB 0)) none) = _
  rw [h0, h1]
  rfl
theorem marked_bytes (w : World) (x : UInt8) (fr : Nat × Nat) (t : TypeId) : BytesAt (w.alloc (.cells #[.int .u8 (x.toNat : Int)] t fr)) (some ⟨w.heap.size, 0, none⟩) [x] := fun _ => by
  refine ⟨_, rfl, fun j hj => ?_⟩
  obtain rfl : j = 0 := by simpa using hj
  rw [add_none]
  exact Joins.cell_of_block (heap_alloc_new w (.cells #[.int .u8 (x.toNat : Int)] t fr)) 0
set_option maxRecDepth 100000 in
set_option maxHeartbeats 1000000 in
theorem alive_is (w : World) (hR : Rounds w) (E : Nat → Addr) (he : ErrVars [0, 1] w w.heap.size E) (ep ed ef : Addr) (hep : ErrAt w w.heap.size 6 ep) (hed : ErrAt w w.heap.size 1 ed) (hef : ErrAt w w.heap.size 7 ef) :
    Calls Tryd.prog 9 #[] w fun e w' => e = .returned (.bool true) ∧ w.grownBy w' none := by
  have her : ErrAt w w.heap.size 0 (E 0) := he.var 0 (by simp)
  have HX := Lib.hid (And.intro hR (And.intro he (And.intro her (And.intro hep (And.intro hed hef)))))
  have HN := Lib.hid (dsk_new w w (Kept.refl _ _) 2 (by omega) (E 0) her)
  have kc := fun (w : World) (C : Array Value) (n c : Nat) => Lib.run_convert_bytes_const (P := Tryd.prog) w 22 5 C n c Tryd.underlying22 Tryd.underlying5
  have SF := Lib.hid sa_facts
  clear hR he her hep hed hef
  refine (callsIn_wide (n := 10)).1 ?_
  refine callsIn_of_wp Tryd.func9 rfl trivial ?_ rfl
  simp only [Tryd.ntmps9, List.size_toArray, List.length_cons, List.length_nil, Nat.reduceAdd, Nat.reduceSub, Array.replicate_succ, Array.replicate_zero, List.push_toArray, List.append_toArray, List.nil_append, List.cons_append]
  gi_wp2
  refine ⟨trivial, ?_⟩
  refine (callsIn_wide.2 HN.out).mono ?_
  rintro e w1 ⟨k1, d, b, m, rfl, hd, _⟩
  have H1 := Lib.hid hd
  clear k1 hd
  gi_wp2
  refine ⟨trivial, ?_⟩
  refine (callsIn_wide.2 (format_is w w1 d b m (newS 2) H1.out HX.out.1 (E 0) ep HX.out.2.2.1 HX.out.2.2.2.1 0)).mono ?_
  rintro e w2 (⟨hbad, _⟩ | ⟨_, hd, ⟨hne, _⟩ | ⟨_, s, rfl, hsl, hs⟩⟩)
  · exact absurd ⟨by omega, by simp [newS]⟩ hbad
  · exact absurd SF.out.1 hne
  have H2 := Lib.hid (And.intro (show Dsk w w2 d b m sa1 from hd) (And.intro hsl hs))
  clear hd hsl hs
  gi_wp2
  obtain ⟨q2, hq2⟩ : ∃ q, w2.heap.size = q := ⟨_, rfl⟩
  have hmb := marked_bytes w2 97 (1, 2) 5
  have gmb := World.grownBy_alloc w2 (.cells #[.int .u8 97] 5 (1, 2)) none
  obtain ⟨X2, hX2⟩ : ∃ X, w2.alloc (.cells #[.int .u8 97] 5 (1, 2)) = X := ⟨_, rfl⟩
  rw [show w2.alloc (.cells #[.int .u8 ((97 : UInt8).toNat : Int)] 5 (1, 2)) = X2 from hX2, hq2] at hmb
  rw [hX2] at gmb
  rw [hX2, hq2]
  have hnb : ¬ (q2 = d ∨ q2 = b ∨ q2 = m ∨ q2 = s) := by
    have h1 := H2.out.1.1.1.lt
    have h2 := H2.out.1.1.2.1.lt
    have h3 : m < w2.heap.size := by obtain ⟨D, hD, _⟩ := H2.out.1.1.2.2.1; exact hD.lt
    have h4 : s < w2.heap.size := by obtain ⟨_, _, _, h, _⟩ := H2.out.2.1; exact h.lt
    omega
  have hput := sput_is w X2 d b m s sa1 0 0 [] (H2.out.1.grown gmb) (H2.out.2.1.grown gmb) HX.out.1 (some ⟨q2, 0, none⟩) 1 1 [97] rfl hmb (E 0) ep ef HX.out.2.2.1 HX.out.2.2.2.1 H2.out.2.2 (fun ad e _ => by injection e with e; subst e; exact hnb) HX.out.2.2.2.2.2 (by omega) (by omega)
  have HP2 := Lib.hid hput
  clear hput hmb gmb hnb hX2 hq2
  refine ⟨trivial, ?_⟩
  refine (callsIn_wide.2 HP2.out).mono ?_
  rintro e w3 (⟨h, _⟩ | ⟨_, h, _⟩ | ⟨_, _, hd, ⟨hne, _⟩ | ⟨_, rfl, hsl⟩⟩)
  · simp at h
  · omega
  · exact absurd SF.out.2.1 hne
  have H3 := Lib.hid (And.intro (show Dsk w w3 d b m sa2 from hd) (And.intro (show SlAt w3 s d b m 0 (0 + 1) [97] from hsl) H2.out.2.2))
  clear hd hsl HP2
  gi_wp2
  obtain ⟨q3, hq3⟩ : ∃ q, w3.heap.size = q := ⟨_, rfl⟩
  have hmb := marked_bytes w3 98 (1, 2) 5
  have gmb := World.grownBy_alloc w3 (.cells #[.int .u8 98] 5 (1, 2)) none
  obtain ⟨X3, hX3⟩ : ∃ X, w3.alloc (.cells #[.int .u8 98] 5 (1, 2)) = X := ⟨_, rfl⟩
  rw [show w3.alloc (.cells #[.int .u8 ((98 : UInt8).toNat : Int)] 5 (1, 2)) = X3 from hX3, hq3] at hmb
  rw [hX3] at gmb
  rw [hX3, hq3]
  have hnb : ¬ (q3 = d ∨ q3 = b ∨ q3 = m ∨ q3 = s) := by
    have h1 := H3.out.1.1.1.lt
    have h2 := H3.out.1.1.2.1.lt
    have h3 : m < w3.heap.size := by obtain ⟨D, hD, _⟩ := H3.out.1.1.2.2.1; exact hD.lt
    have h4 : s < w3.heap.size := by obtain ⟨_, _, _, h, _⟩ := H3.out.2.1; exact h.lt
    omega
  have hput := sput_is w X3 d b m s sa2 0 1 [97] (H3.out.1.grown gmb) (H3.out.2.1.grown gmb) HX.out.1 (some ⟨q3, 0, none⟩) 1 1 [98] rfl hmb (E 0) ep ef HX.out.2.2.1 HX.out.2.2.2.1 H3.out.2.2 (fun ad e _ => by injection e with e; subst e; exact hnb) HX.out.2.2.2.2.2 (by omega) (by omega)
  have HP3 := Lib.hid hput
  clear hput hmb gmb hnb hX3 hq3
  refine ⟨trivial, ?_⟩
  refine (callsIn_wide.2 HP3.out).mono ?_
  rintro e w4 (⟨h, _⟩ | ⟨_, h, _⟩ | ⟨_, _, hd, ⟨hne, _⟩ | ⟨_, rfl, hsl⟩⟩)
  · simp at h
  · omega
  · exact absurd SF.out.2.2.1 hne
  have H4 := Lib.hid (And.intro (show Dsk w w4 d b m sa3 from hd) (And.intro (show SlAt w4 s d b m 0 (1 + 1) [98] from hsl) H3.out.2.2))
  clear hd hsl HP3
  gi_wp2
  refine ⟨trivial, ?_⟩
  refine (callsIn_wide.2 (dsk_crash0 H4.out.1 (show crashS sa3 [] = sa4 from rfl))).mono ?_
  rintro e w5 ⟨rfl, hd, _⟩
  have H5 := Lib.hid hd
  clear hd
  gi_wp2
  have hop := open_is w w5 d b m sa4 H5.out HX.out.1 E HX.out.2.1 ep ed HX.out.2.2.2.1 HX.out.2.2.2.2.1 0 saB (fun _ _ k hk => by
    match k, hk with
    | 0, _ => exact ⟨slotB_len _ _, by rw [show saB 0 = slotB 2 [98] from rfl, slotB_ints]; exact SF.out.2.2.2.2.2.1⟩
    | 1, _ => exact ⟨slotB_len _ _, by rw [show saB 1 = slotB 1 [97] from rfl, slotB_ints]; exact SF.out.2.2.2.2.2.2⟩)
  have HOP := Lib.hid hop
  clear hop
  refine ⟨trivial, ?_⟩
  refine (callsIn_wide.2 HOP.out).mono ?_
  rintro e w6 ⟨g6, ⟨hbad, _⟩ | ⟨_, ⟨hoff, _⟩ | ⟨_, ⟨hn, _⟩ | ⟨c, x, hc, s2, rfl, hsl, _⟩⟩⟩⟩
  · exact absurd ⟨by omega, by rw [SF.out.2.2.2.2.1]; omega⟩ hbad
  · rw [SF.out.2.2.2.1] at hoff; cases hoff
  · rw [saB_sel] at hn; cases hn
  rw [saB_sel] at hc
  injection hc with hc
  injection hc with hc1 hc2
  subst hc1 hc2
  have H6 := Lib.hid (And.intro (H5.out.grown g6) hsl)
  clear g6 hsl HOP
  gi_wp2
  refine ⟨trivial, ?_⟩
  refine (callsIn_wide.2 (record_is H6.out.2 (by simp))).mono ?_
  rintro e w7 ⟨A7, c7, rfl, hb7, g7⟩
  have ht := toString_any (n := 1) (c := c7) hb7 rfl
  have H7 := Lib.hid (And.intro (H6.out.1.grown g7) (H6.out.2.grown g7))
  clear hb7 g7
  gi_wp2
  refine ⟨trivial, ?_⟩
  refine (callsIn_wide.2 (count_is H7.out.2)).mono ?_
  rintro e w8 ⟨rfl, hw8⟩
  obtain rfl : w7 = w8 := hw8.symm
  gi_wp2
  go_ret
  exact ⟨rfl, H7.out.1.grownNone⟩
end Go.Proofs.YtilfapibfadbfaaDoor
