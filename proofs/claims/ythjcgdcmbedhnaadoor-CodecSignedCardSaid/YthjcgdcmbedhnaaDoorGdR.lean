/-
  The document's words that are signed: for votes, late words, proposals.
-/
import Derived.Test.YthjcgdcmbedhnaaDoorGdO
import Derived.Test.YthjcgdcmbedhnaaDoorRfO
import Derived.Test.YthjcgdcmbedhnaaDoorBaseA
namespace Go.Proofs.YthjcgdcmbedhnaaDoor
open Go.RowKit

set_option maxRecDepth 100000 in
set_option maxHeartbeats 2000000 in
theorem rwide_is (w : World) (n : Int) (hn : -9223372036854775808 ≤ n ∧ n < 9223372036854775808) (s : ByteArray) (hs : xsOf s = b8 n) :
    Calls Tryd.prog 20 #[.int .i64 n] w fun e w' => e = .returned (.string s) ∧ w.grownBy w' none := by
  obtain ⟨i0, hi0, hz0, hz1, hz2⟩ := info_parts u8i
  have HI0 := Lib.hid (And.intro hi0 (And.intro hz0 (And.intro hz1 hz2)))
  obtain ⟨U, hU⟩ : ∃ U : Int, U = n % 18446744073709551616 := ⟨_, rfl⟩
  have hwU : IntKind.u64.wrap n = U := by rw [IntKind.wrap_u64]; omega
  have hU0 : 0 ≤ U ∧ U < 18446744073709551616 := by omega
  have hb : b8 n = [(U / 72057594037927936), (U / 281474976710656 % 256), (U / 1099511627776 % 256), (U / 4294967296 % 256), (U / 16777216 % 256), (U / 65536 % 256), (U / 256 % 256), (U % 256)] := by
    rw [b8, hU]
    have e1 : n / 72057594037927936 % 256 = n % 18446744073709551616 / 72057594037927936 := by omega
    have e2 : n / 281474976710656 % 256 = n % 18446744073709551616 / 281474976710656 % 256 := by omega
    have e3 : n / 1099511627776 % 256 = n % 18446744073709551616 / 1099511627776 % 256 := by omega
    have e4 : n / 4294967296 % 256 = n % 18446744073709551616 / 4294967296 % 256 := by omega
    have e5 : n / 16777216 % 256 = n % 18446744073709551616 / 16777216 % 256 := by omega
    have e6 : n / 65536 % 256 = n % 18446744073709551616 / 65536 % 256 := by omega
    have e7 : n / 256 % 256 = n % 18446744073709551616 / 256 % 256 := by omega
    have e8 : n % 256 = n % 18446744073709551616 % 256 := by omega
    rw [← e1, ← e2, ← e3, ← e4, ← e5, ← e6, ← e7, ← e8]
  have HD := Lib.hid (And.intro hb hs)
  have HU := Lib.hid hU
  obtain ⟨L, hL⟩ : ∃ L : List Int, L = [(U / 72057594037927936), (U / 281474976710656 % 256), (U / 1099511627776 % 256), (U / 4294967296 % 256), (U / 16777216 % 256), (U / 65536 % 256), (U / 256 % 256), (U % 256)] := ⟨_, rfl⟩
  have HL := Lib.hid hL
  have HO1 := Lib.hid (World.ownsRow_lit (base := w.heap.size) (e := 5) (size := 1) w #[] 0 (by simp) (by decide) rfl)
  have HG1 := Lib.hid (World.grownBy_alloc w (.cells #[] 5) none)
  clear hi0 hz0 hz1 hz2 hU hb hs hL
  go_enter Tryd.func20, Tryd.ntmps20
  go_wp2_with fail
  go_loopw [3, 4] (fun v i wr => ∃ k : Nat, k ≤ 8 ∧ i = .int .i64 (7 - (k : Int)) ∧ wr.ownsRow w.heap.size 5 1 v k ((L.take k).map (Value.int .u8)) ∧ w.grownBy wr none) (fun _ i _ => (intOf i + 1).toNat)
  case atStart => exact ⟨0, by omega, rfl, by simpa using HO1.out, HG1.out⟩
  case round =>
    obtain ⟨k, hk, hi, hown, hK⟩ := hrel
    have HO := Lib.hid hown
    have HK := Lib.hid hK
    clear hown hK
    have hk8 : k = 0 ∨ k = 1 ∨ k = 2 ∨ k = 3 ∨ k = 4 ∨ k = 5 ∨ k = 6 ∨ k = 7 ∨ k = 8 := by omega
    clear hk
    rcases hk8 with rfl | hk8
    · have hi' := hi.trans (show Value.int .i64 (7 - ((0 : Nat) : Int)) = Value.int .i64 7 from rfl)
      clear hi
      subst hi'
      go_wp2_with (at_builtin
                   refine wpList_push rfl _ _ 37 rfl w.heap.size 5 5 i0 (.int .u8 0) 1 Tryd.underlying37 HI0.out.1 HI0.out.2.1 HI0.out.2.2.1 HI0.out.2.2.2 rfl _ _ _ rfl HO.out _ rfl rfl (by omega) (by omega) HK.out.size ?_
                   intro v' w3 hown3 hgrow
                   have HO3 := Lib.hid hown3
                   have HK3 := Lib.hid (grown_own HK.out hgrow HO.out (Nat.le_refl _))
                   clear hown3 hgrow)
      go_roundw
      case rel => exact ⟨1, by omega, rfl, by have := HO3.out; rw [HL.out] at this ⊢; exact this, HK3.out⟩
      case measure => simp [intOf]
    rcases hk8 with rfl | hk8
    · have hi' := hi.trans (show Value.int .i64 (7 - ((1 : Nat) : Int)) = Value.int .i64 6 from rfl)
      clear hi
      subst hi'
      go_wp2_with (at_builtin
                   refine wpList_push rfl _ _ 37 rfl w.heap.size 5 5 i0 (.int .u8 0) 1 Tryd.underlying37 HI0.out.1 HI0.out.2.1 HI0.out.2.2.1 HI0.out.2.2.2 rfl _ _ _ rfl HO.out _ rfl rfl (by omega) (by omega) HK.out.size ?_
                   intro v' w3 hown3 hgrow
                   have HO3 := Lib.hid hown3
                   have HK3 := Lib.hid (grown_own HK.out hgrow HO.out (Nat.le_refl _))
                   clear hown3 hgrow)
      go_roundw
      case rel => exact ⟨2, by omega, rfl, by have := HO3.out; rw [HL.out] at this ⊢; exact this, HK3.out⟩
      case measure => simp [intOf]
    rcases hk8 with rfl | hk8
    · have hi' := hi.trans (show Value.int .i64 (7 - ((2 : Nat) : Int)) = Value.int .i64 5 from rfl)
      clear hi
      subst hi'
      go_wp2_with (at_builtin
                   refine wpList_push rfl _ _ 37 rfl w.heap.size 5 5 i0 (.int .u8 0) 1 Tryd.underlying37 HI0.out.1 HI0.out.2.1 HI0.out.2.2.1 HI0.out.2.2.2 rfl _ _ _ rfl HO.out _ rfl rfl (by omega) (by omega) HK.out.size ?_
                   intro v' w3 hown3 hgrow
                   have HO3 := Lib.hid hown3
                   have HK3 := Lib.hid (grown_own HK.out hgrow HO.out (Nat.le_refl _))
                   clear hown3 hgrow)
      go_roundw
      case rel => exact ⟨3, by omega, rfl, by have := HO3.out; rw [HL.out] at this ⊢; exact this, HK3.out⟩
      case measure => simp [intOf]
    rcases hk8 with rfl | hk8
    · have hi' := hi.trans (show Value.int .i64 (7 - ((3 : Nat) : Int)) = Value.int .i64 4 from rfl)
      clear hi
      subst hi'
      go_wp2_with (at_builtin
                   refine wpList_push rfl _ _ 37 rfl w.heap.size 5 5 i0 (.int .u8 0) 1 Tryd.underlying37 HI0.out.1 HI0.out.2.1 HI0.out.2.2.1 HI0.out.2.2.2 rfl _ _ _ rfl HO.out _ rfl rfl (by omega) (by omega) HK.out.size ?_
                   intro v' w3 hown3 hgrow
                   have HO3 := Lib.hid hown3
                   have HK3 := Lib.hid (grown_own HK.out hgrow HO.out (Nat.le_refl _))
                   clear hown3 hgrow)
      go_roundw
      case rel => exact ⟨4, by omega, rfl, by have := HO3.out; rw [HL.out] at this ⊢; exact this, HK3.out⟩
      case measure => simp [intOf]
    rcases hk8 with rfl | hk8
    · have hi' := hi.trans (show Value.int .i64 (7 - ((4 : Nat) : Int)) = Value.int .i64 3 from rfl)
      clear hi
      subst hi'
      go_wp2_with (at_builtin
                   refine wpList_push rfl _ _ 37 rfl w.heap.size 5 5 i0 (.int .u8 0) 1 Tryd.underlying37 HI0.out.1 HI0.out.2.1 HI0.out.2.2.1 HI0.out.2.2.2 rfl _ _ _ rfl HO.out _ rfl rfl (by omega) (by omega) HK.out.size ?_
                   intro v' w3 hown3 hgrow
                   have HO3 := Lib.hid hown3
                   have HK3 := Lib.hid (grown_own HK.out hgrow HO.out (Nat.le_refl _))
                   clear hown3 hgrow)
      go_roundw
      case rel => exact ⟨5, by omega, rfl, by have := HO3.out; rw [HL.out] at this ⊢; exact this, HK3.out⟩
      case measure => simp [intOf]
    rcases hk8 with rfl | hk8
    · have hi' := hi.trans (show Value.int .i64 (7 - ((5 : Nat) : Int)) = Value.int .i64 2 from rfl)
      clear hi
      subst hi'
      go_wp2_with (at_builtin
                   refine wpList_push rfl _ _ 37 rfl w.heap.size 5 5 i0 (.int .u8 0) 1 Tryd.underlying37 HI0.out.1 HI0.out.2.1 HI0.out.2.2.1 HI0.out.2.2.2 rfl _ _ _ rfl HO.out _ rfl rfl (by omega) (by omega) HK.out.size ?_
                   intro v' w3 hown3 hgrow
                   have HO3 := Lib.hid hown3
                   have HK3 := Lib.hid (grown_own HK.out hgrow HO.out (Nat.le_refl _))
                   clear hown3 hgrow)
      go_roundw
      case rel => exact ⟨6, by omega, rfl, by have := HO3.out; rw [HL.out] at this ⊢; exact this, HK3.out⟩
      case measure => simp [intOf]
    rcases hk8 with rfl | hk8
    · have hi' := hi.trans (show Value.int .i64 (7 - ((6 : Nat) : Int)) = Value.int .i64 1 from rfl)
      clear hi
      subst hi'
      go_wp2_with (at_builtin
                   refine wpList_push rfl _ _ 37 rfl w.heap.size 5 5 i0 (.int .u8 0) 1 Tryd.underlying37 HI0.out.1 HI0.out.2.1 HI0.out.2.2.1 HI0.out.2.2.2 rfl _ _ _ rfl HO.out _ rfl rfl (by omega) (by omega) HK.out.size ?_
                   intro v' w3 hown3 hgrow
                   have HO3 := Lib.hid hown3
                   have HK3 := Lib.hid (grown_own HK.out hgrow HO.out (Nat.le_refl _))
                   clear hown3 hgrow)
      go_roundw
      case rel => exact ⟨7, by omega, rfl, by have := HO3.out; rw [HL.out] at this ⊢; exact this, HK3.out⟩
      case measure => simp [intOf]
    rcases hk8 with rfl | rfl
    · have hi' := hi.trans (show Value.int .i64 (7 - ((7 : Nat) : Int)) = Value.int .i64 0 from rfl)
      clear hi
      subst hi'
      go_wp2_with (at_builtin
                   refine wpList_push rfl _ _ 37 rfl w.heap.size 5 5 i0 (.int .u8 0) 1 Tryd.underlying37 HI0.out.1 HI0.out.2.1 HI0.out.2.2.1 HI0.out.2.2.2 rfl _ _ _ rfl HO.out _ rfl rfl (by omega) (by omega) HK.out.size ?_
                   intro v' w3 hown3 hgrow
                   have HO3 := Lib.hid hown3
                   have HK3 := Lib.hid (grown_own HK.out hgrow HO.out (Nat.le_refl _))
                   clear hown3 hgrow)
      go_roundw
      case rel => exact ⟨8, by omega, rfl, by have := HO3.out; rw [HL.out] at this ⊢; exact this, HK3.out⟩
      case measure => simp [intOf]
    · have hi' := hi.trans (show Value.int .i64 (7 - ((8 : Nat) : Int)) = Value.int .i64 (-1) from rfl)
      clear hi
      subst hi'
      have hown := HO.out
      rw [List.take_of_length_le (by rw [HL.out]; exact Nat.le_refl _)] at hown
      obtain ⟨A', cap', rfl, hbb, _, _⟩ := own_str hown
      have hcv := str_run ‹World› A' 8 cap' s (by rw [← xsOf_length, HD.out.2]; rfl) (by rw [HD.out.2, HD.out.1, ← HL.out]; exact hbb)
      clear hown hbb HO
      go_wp2_with fail
      go_ret
      exact ⟨rfl, HK.out⟩
end Go.Proofs.YthjcgdcmbedhnaaDoor
