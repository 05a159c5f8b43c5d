/-
  WireNests: the walk.
-/
import Derived.Test.YtmmjpkijnecmcaaDoorNt
import Derived.Test.YtmmjpkijnecmcaaDoorArgL
namespace Go.Proofs.YtmmjpkijnecmcaaDoor
open Go.RowKit

theorem la_of {w : World} {A : Option Addr} {xs : List (List UInt8)} (h : ListsAt w A xs) : LA w w.heap.size A xs := fun hne => by
  obtain ⟨ad, e, hc⟩ := h hne
  obtain ⟨b, off, rfl⟩ : ∃ b off, ad = ⟨b, off, none⟩ := by
    obtain ⟨B, c, h1, _⟩ := hc 0 (List.length_pos_iff.2 hne)
    obtain ⟨b, off, e⟩ := addr_form h1 rfl
    exact ⟨b, off, e⟩
  refine ⟨b, off, e, ?_, fun j hj => ?_⟩
  · obtain ⟨B, c, h1, _⟩ := hc 0 (List.length_pos_iff.2 hne)
    rw [Go.WideShapes.add_plain] at h1
    exact World.block_lt_of_cell? w _ h1
  · obtain ⟨B, c, h1, _, h3⟩ := hc j hj
    rw [Go.WideShapes.add_plain] at h1
    exact ⟨B, c, h1, h3, fun ad e hne => h3.lt ad e hne⟩

set_option maxRecDepth 100000 in
set_option maxHeartbeats 2000000 in
theorem nests_any (w : World) (A : Option Addr) (n c : Nat) (xs : List (List UInt8)) (E : Nat → Addr) (hn : xs.length = n) (hx : LA w w.heap.size A xs) (he : ErrVars [0, 1, 2, 3] w w.heap.size E) :
    Calls Tryd.prog 9 #[.slice A n c] w fun e w' => e = .returned (.bool true) ∧ Below w.heap.size w w' := by
  have Hn := Lib.hid hn
  have Hx := Lib.hid hx
  clear hn hx
  by_cases hbig : 40 < n
  · have d1 : decide ((40 : Int) < (n : Int)) = true := by simp; omega
    go_enter Tryd.func9, Tryd.ntmps9
    go_wp2_with fail
    refine (alive_any _).mono ?_
    rintro e w1 ⟨rfl, k1⟩
    go_wp2_with fail
    go_ret
    exact ⟨rfl, below_grown k1 (Nat.le_refl _) (fun _ e => by cases e)⟩
  have d1 : decide ((40 : Int) < (n : Int)) = false := by simp; omega
  have h40 : n ≤ 40 := by omega
  go_enter Tryd.func9, Tryd.ntmps9
  go_wp2_with fail
  refine (alive_any _).mono ?_
  rintro e w1 ⟨rfl, k1⟩
  have K1 : Kept (fun _ => False) w w1 := Kept.of_grown k1 fun _ e => by cases e
  go_wp2_with fail
  go_loopw [17] (fun i wr => ∃ k : Nat, k ≤ n ∧ i = .int .i64 (k : Int) ∧ Kept (fun _ => False) w wr ∧ Hid (∀ y ∈ xs.take k, y.length ≤ 200)) (fun i _ => n - (intOf i).toNat)
  case atStart => exact ⟨0, Nat.zero_le _, rfl, K1, Lib.hid (fun y hy => by simp at hy)⟩
  case round =>
    obtain ⟨k, hk, rfl, K, hS⟩ := hrel
    by_cases hlt : k < n
    · have hb : decide ((k : Int) < (n : Int)) = true := by simp; omega
      have hkx : k < xs.length := by have := Hn.out; omega
      obtain ⟨b, off, rfl, _, hc⟩ := (Hx.out.kept K (fun _ h => h.elim)) (by rintro rfl; simp at hkx)
      obtain ⟨B, cB, hcell, _, _⟩ := hc k hkx
      have htk : xs.take (k + 1) = xs.take k ++ [xs[k]] := List.take_succ_eq_append_getElem hkx
      have Htk := Lib.hid htk
      have HK := Lib.hid K
      clear hc htk K
      generalize xs[k] = y at *
      by_cases h200 : 200 < y.length
      · have d2 : decide ((200 : Int) < (y.length : Int)) = true := by simp; omega
        go_wp2_with fail
        go_ret
        exact ⟨rfl, HK.out.below (Nat.le_refl _) (fun _ h => h.elim)⟩
      · have d2 : decide ((200 : Int) < (y.length : Int)) = false := by simp; omega
        have H200 := Lib.hid (show y.length ≤ 200 by omega)
        go_wp2_with fail
        go_roundw
        case rel => exact ⟨k + 1, by omega, by go_num, HK.out, Lib.hid (fun z hz => by
          rw [Htk.out] at hz
          rcases List.mem_append.1 hz with h | h
          · exact hS.out z h
          · have : z = y := by simpa using h
            rw [this]; exact H200.out)⟩
        case measure => simp [intOf]; omega
    · have hb : decide ((k : Int) < (n : Int)) = false := by simp; omega
      have hsm : ∀ y ∈ xs, y.length ≤ 255 := fun y hy => by
        have h1 : xs.take k = xs := List.take_of_length_le (by have := Hn.out; omega)
        have := hS.out y (by rw [h1]; exact hy)
        omega
      have Hsm := Lib.hid hsm
      have HK := Lib.hid K
      clear hsm K
      go_wp2_with fail
      refine (new_ok _).mono ?_
      rintro e w3 ⟨rfl, rfl⟩
      have hW : WrIs (wr.alloc (.cells #[.nilIface, .slice none 0 0] 64)) (fun b => b = wr.heap.size) wr.heap.size .nilIface [] := WrIs.new wr (F := fun b => b = wr.heap.size) rfl
      have K3 : Kept (fun _ => False) w (wr.alloc (.cells #[.nilIface, .slice none 0 0] 64)) := HK.out.alloc _
      have hwr := HK.out.size
      have hz3 : (wr.alloc (.cells #[.nilIface, .slice none 0 0] 64)).heap.size = wr.heap.size + 1 := by simp
      have HW := Lib.hid hW
      have HK3 := Lib.hid K3
      have HZ := Lib.hid (And.intro hwr hz3)
      clear hW K3 hwr hz3
      go_wp2_with fail
      generalize wr.alloc (.cells #[.nilIface, .slice none 0 0] 64) = w4 at *
      generalize wr.heap.size = g at *
      refine (lput_ok w4 (fun b => b = g) g [] A n c 255 xs Hn.out w.heap.size (fun k h => by have := HZ.out; omega) (by have := HZ.out; omega) Hsm.out HW.out (by simp) (Hx.out.kept HK3.out (fun _ h => h.elim)) (by omega) (by omega)).mono ?_
      rintro e w5 ⟨rfl, hw5, k5⟩
      have HW5 := Lib.hid hw5
      have K5 : Kept (fun _ => False) w w5 := HK3.out.follow k5 (fun j hj h => by have := HZ.out; omega)
      have HK5 := Lib.hid K5
      have hlen : (be 1 n ++ wantsL xs).length ≤ 20000 := by
        have h1 := wantsL_len xs Hsm.out
        have h2 := Hn.out
        rw [List.length_append, be_length]; omega
      clear hw5 k5 K5
      rw [List.nil_append] at HW5
      obtain ⟨L, hL⟩ : ∃ L, L = be 1 n ++ wantsL xs := ⟨_, rfl⟩
      rw [← hL] at HW5 hlen
      have HL := Lib.hid hL
      clear hL
      go_wp2_with fail
      refine (done_ok _ _ _ _ HW5.out (by omega)).mono ?_
      rintro e w9 ⟨A9, c9, rfl, hown9, k9⟩
      have K9 := HK5.out.follow (Kept.of_grown (F := fun _ => False) k9 fun _ e => by cases e) (fun _ _ h => h)
      have HK9 := Lib.hid K9
      have HO9 := Lib.hid hown9
      clear K9 hown9 k9
      go_wp2_with fail
      refine (reader_new w9 A9 _ c9 L rfl (own_bytesAt HO9.out) (by omega)).mono ?_
      rintro e w10 ⟨g2, s2, rfl, hr10, hg1, hg2, hs1, hs2, k10⟩
      have K10 := HK9.out.follow (Kept.of_grown (F := fun _ => False) k10 fun _ e => by cases e) (fun _ _ h => h)
      have z9 := HK9.out.size
      have HK10 := Lib.hid K10
      have HR10 := Lib.hid hr10
      have hgw : w.heap.size ≤ g2 := by omega
      clear K10 hr10 k10
      go_wp2_with fail
      refine (take_l w10 w.heap.size g2 s2 E xs n Hn.out (by omega) Hsm.out hs2 hgw (by rw [← HL.out]; exact HR10.out) ((he.kept HK10.out (fun _ h => h.elim)).sub (by decide))).mono ?_
      rintro en w11 ⟨A11, c11, N, cells, rfl, hrow, hr11, k11⟩
      have K11 : Kept (fun _ => False) w w11 := HK10.out.follow (Kept.of_grown (F := fun j => j = g2) k11 fun j e => by injection e with e; exact e.symm) (fun j hj h => by omega)
      have HK11 := Lib.hid K11
      have HRow := Lib.hid hrow
      have HR11 := Lib.hid hr11
      clear K11 hrow hr11 k11
      go_wp2_with fail
      refine (rdone_is w11 w.heap.size g2 s2 E 0 [] 0 rfl HR11.out ((he.kept HK11.out (fun _ h => h.elim)).sub (by decide))).mono ?_
      rintro en w12 ⟨rfl, rfl⟩
      have hnil : evOf E 0 = .nilIface := rfl
      rw [hnil]
      go_wp2_with fail
      refine (samelists_is _ A11 A c11 c n xs Hn.out (by omega) HRow.out.ls (Hx.out.kept HK11.out (fun _ h => h.elim)).ls).mono ?_
      rintro en w13 ⟨rfl, k13⟩
      go_wp2_with fail
      go_ret
      exact ⟨rfl, (HK11.out.follow (Kept.of_grown (F := fun _ => False) k13 fun _ e => by cases e) (fun _ _ h => h)).below (Nat.le_refl _) (fun _ h => h.elim)⟩
end Go.Proofs.YtmmjpkijnecmcaaDoor
