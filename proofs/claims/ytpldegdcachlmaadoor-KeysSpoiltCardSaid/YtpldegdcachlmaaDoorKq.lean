/-
  keys.Same and quorateref05.Same.
-/
import Derived.Test.YtpldegdcachlmaaDoorKs
import Derived.Test.YtpldegdcachlmaaDoorSe
namespace Go.Proofs.YtpldegdcachlmaaDoor
open Go.RowKit

set_option maxRecDepth 100000 in
theorem ksame_is (w : World) (la lb : Int) (A1 A2 B1 B2 : Option Addr) (n1 c1 n2 c2 m1 d1 m2 d2 : Nat) (r1 r2 : Bool)
    (H1 : ∀ z, w.grownBy z none → Calls Tryd.prog 35 #[.slice A1 n1 c1, .slice B1 m1 d1] z fun e w' => e = .returned (.bool r1) ∧ z.grownBy w' none)
    (H2 : ∀ z, w.grownBy z none → Calls Tryd.prog 35 #[.slice A2 n2 c2, .slice B2 m2 d2] z fun e w' => e = .returned (.bool r2) ∧ z.grownBy w' none) :
    Calls Tryd.prog 20 #[.agg (sigV la (.slice A1 n1 c1) (.slice A2 n2 c2)), .agg (sigV lb (.slice B1 m1 d1) (.slice B2 m2 d2))] w fun e w' => e = .returned (.bool (decide (la = lb) && r1 && r2)) ∧ w.grownBy w' none := by
  have K1 := Lib.hid H1
  have K2 := Lib.hid H2
  clear H1 H2
  have hg := grown_trans (World.grownBy_alloc w (.cells (sigV la (.slice A1 n1 c1) (.slice A2 n2 c2)) 30) none) (World.grownBy_alloc _ (.cells (sigV lb (.slice B1 m1 d1) (.slice B2 m2 d2)) 30) none)
  simp only [sigV] at hg
  have HG := Lib.hid hg
  clear hg
  simp only [sigV]
  by_cases hab : la = lb
  · subst hab
    have dab : (la == la) = true := by simp
    cases r1
    · go_enter Tryd.func20, Tryd.ntmps20
      go_wp2_with fail
      refine (K1.out _ HG.out).mono ?_
      rintro e w2 ⟨rfl, hk2⟩
      have HK2 := Lib.hid (grown_trans HG.out hk2)
      clear hk2
      go_wp2_with fail
      go_ret
      exact ⟨by simp, HK2.out⟩
    · go_enter Tryd.func20, Tryd.ntmps20
      go_wp2_with fail
      refine (K1.out _ HG.out).mono ?_
      rintro e w2 ⟨rfl, hk2⟩
      have HK2 := Lib.hid (grown_trans HG.out hk2)
      have HC := Lib.hid hk2
      have c1' : w2.cell? ⟨w.heap.size, 2, none⟩ = some (.slice A2 n2 c2) := by
        have b1 := (Blk.new w 30 #[.int .i64 la, .slice A1 n1 c1, .slice A2 n2 c2]).alloc (.cells #[.int .i64 la, .slice B1 m1 d1, .slice B2 m2 d2] 30)
        exact ((b1.grown hk2 (by simp)).cell 2)
      have c2' : w2.cell? ⟨w.heap.size + 1, 2, none⟩ = some (.slice B2 m2 d2) := by
        have b1 := Blk.new (w.alloc (.cells #[.int .i64 la, .slice A1 n1 c1, .slice A2 n2 c2] 30)) 30 #[.int .i64 la, .slice B1 m1 d1, .slice B2 m2 d2]
        rw [World.size_alloc] at b1
        exact ((b1.grown hk2 (by simp)).cell 2)
      clear hk2
      go_wp2_with fail
      refine (K2.out _ HK2.out).mono ?_
      rintro e w3 ⟨rfl, hk3⟩
      have HK3 := Lib.hid (grown_trans HK2.out hk3)
      clear hk3 c1' c2'
      go_wp2_with fail
      go_ret
      exact ⟨by simp, HK3.out⟩
  · have dab : (la == lb) = false := by simp [hab]
    have dd : decide (la = lb) = false := decide_eq_false hab
    clear hab
    go_enter Tryd.func20, Tryd.ntmps20
    go_wp2_with fail
    go_ret
    exact ⟨by simp [dd], HG.out⟩
set_option maxRecDepth 100000 in
theorem rsame_is (w : World) (la lb : Int) (A1 A2 B1 B2 : Option Addr) (n1 c1 n2 c2 m1 d1 m2 d2 : Nat) (r1 r2 : Bool)
    (H1 : ∀ z, w.grownBy z none → Calls Tryd.prog 27 #[.slice A1 n1 c1, .slice B1 m1 d1] z fun e w' => e = .returned (.bool r1) ∧ z.grownBy w' none)
    (H2 : ∀ z, w.grownBy z none → Calls Tryd.prog 27 #[.slice A2 n2 c2, .slice B2 m2 d2] z fun e w' => e = .returned (.bool r2) ∧ z.grownBy w' none) :
    Calls Tryd.prog 15 #[.agg (sigV la (.slice A1 n1 c1) (.slice A2 n2 c2)), .agg (sigV lb (.slice B1 m1 d1) (.slice B2 m2 d2))] w fun e w' => e = .returned (.bool (decide (la = lb) && r1 && r2)) ∧ w.grownBy w' none := by
  have K1 := Lib.hid H1
  have K2 := Lib.hid H2
  clear H1 H2
  have hg := grown_trans (World.grownBy_alloc w (.cells (sigV la (.slice A1 n1 c1) (.slice A2 n2 c2)) 30) none) (World.grownBy_alloc _ (.cells (sigV lb (.slice B1 m1 d1) (.slice B2 m2 d2)) 30) none)
  simp only [sigV] at hg
  have HG := Lib.hid hg
  clear hg
  simp only [sigV]
  by_cases hab : la = lb
  · subst hab
    have dab : (la == la) = true := by simp
    cases r1
    · go_enter Tryd.func15, Tryd.ntmps15
      go_wp2_with fail
      refine (K1.out _ HG.out).mono ?_
      rintro e w2 ⟨rfl, hk2⟩
      have HK2 := Lib.hid (grown_trans HG.out hk2)
      clear hk2
      go_wp2_with fail
      go_ret
      exact ⟨by simp, HK2.out⟩
    · go_enter Tryd.func15, Tryd.ntmps15
      go_wp2_with fail
      refine (K1.out _ HG.out).mono ?_
      rintro e w2 ⟨rfl, hk2⟩
      have HK2 := Lib.hid (grown_trans HG.out hk2)
      have HC := Lib.hid hk2
      have c1' : w2.cell? ⟨w.heap.size, 2, none⟩ = some (.slice A2 n2 c2) := by
        have b1 := (Blk.new w 30 #[.int .i64 la, .slice A1 n1 c1, .slice A2 n2 c2]).alloc (.cells #[.int .i64 la, .slice B1 m1 d1, .slice B2 m2 d2] 30)
        exact ((b1.grown hk2 (by simp)).cell 2)
      have c2' : w2.cell? ⟨w.heap.size + 1, 2, none⟩ = some (.slice B2 m2 d2) := by
        have b1 := Blk.new (w.alloc (.cells #[.int .i64 la, .slice A1 n1 c1, .slice A2 n2 c2] 30)) 30 #[.int .i64 la, .slice B1 m1 d1, .slice B2 m2 d2]
        rw [World.size_alloc] at b1
        exact ((b1.grown hk2 (by simp)).cell 2)
      clear hk2
      go_wp2_with fail
      refine (K2.out _ HK2.out).mono ?_
      rintro e w3 ⟨rfl, hk3⟩
      have HK3 := Lib.hid (grown_trans HK2.out hk3)
      clear hk3 c1' c2'
      go_wp2_with fail
      go_ret
      exact ⟨by simp, HK3.out⟩
  · have dab : (la == lb) = false := by simp [hab]
    have dd : decide (la = lb) = false := decide_eq_false hab
    clear hab
    go_enter Tryd.func15, Tryd.ntmps15
    go_wp2_with fail
    go_ret
    exact ⟨by simp [dd], HG.out⟩
end Go.Proofs.YtpldegdcachlmaaDoor
