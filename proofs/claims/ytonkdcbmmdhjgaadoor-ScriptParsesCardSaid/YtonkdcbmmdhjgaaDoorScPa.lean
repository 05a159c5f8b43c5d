/-
  ScriptParses.
-/
import Derived.Test.YtonkdcbmmdhjgaaDoorScSm
import Derived.Test.YtonkdcbmmdhjgaaDoorNum
namespace Go.Proofs.YtonkdcbmmdhjgaaDoor
open Go.RowKit Go.Shelf

theorem rowR_own {w : World} {base n c : Nat} {A : Option Addr} {os : List OpM} (hn : os.length = n) (h : w.ownsRow base 56 6 (.slice A n c) n (opsC os)) : OpRow w A os := fun hne => by
  rcases h.2 with ⟨e, hl⟩ | ⟨g, cap, cur, e, _, hh, _, _, hs, ht⟩
  · injection e with e1 e2 e3
    subst e1 e2 e3
    exact absurd (List.eq_nil_of_length_eq_zero hn) hne
  · injection e with e1 e2 e3
    subst e1 e3 hn
    refine ⟨g, 0, rfl, fun k hk j v hv => ?_⟩
    have hb : Blk w g 56 cur := hh
    have hj : j < 6 := (List.getElem?_eq_some_iff.1 hv).1
    have h2 := opsC_get os k hk j v hv
    rw [← ht, List.getElem?_take] at h2
    rw [Nat.zero_add, hb.cell (k * 6 + j)]
    split at h2
    · simpa using h2
    · cases h2
theorem row_nil (w : World) (A : Option Addr) : OpRow w A [] := fun h => absurd rfl h
set_option maxRecDepth 100000 in
set_option maxHeartbeats 2000000 in
theorem parses_is (s : ByteArray) (w : World) (E : Nat → Addr) (hE : ErrEnv w w.heap.size E) (he : ScEnv w) :
    Calls Tryd.prog 3 #[.string s] w fun e w' => e = .returned (.bool true) ∧ w.grownBy w' none := by
  have h3 : Env3 w (E 2) (E 3) := ⟨he, hE.var 2 (by omega), hE.var 3 (by omega)⟩
  have HA := Lib.hid (alive_is w he (E 2) (E 3) h3.long h3.form)
  have HE := Lib.hid (And.intro h3 hE)
  clear h3 he hE
  go_enter Tryd.func3, Tryd.ntmps3
  go_wp2_with fail
  refine HA.out.mono ?_
  rintro e w1 ⟨rfl, k1⟩
  have K1 := Lib.hid k1
  by_cases hs : 2000 < s.size
  · have d1 : decide ((2000 : Int) < (s.size : Int)) = true := by simp; omega
    clear k1
    go_wp2_with fail
    go_ret
    exact ⟨rfl, K1.out⟩
  have d1 : decide ((2000 : Int) < (s.size : Int)) = false := by simp; omega
  obtain ⟨l, hl⟩ : ∃ l, l = s.data.toList := ⟨_, rfl⟩
  have hln : l.length = s.size := by rw [hl]; exact Array.length_toList
  have HL := Lib.hid (And.intro hl.symm hln)
  have H1 := Lib.hid (And.intro (HE.out.1.gr k1) (HE.out.2.grown k1 (by simp)))
  clear k1 hl hln
  go_wp2_with fail
  refine (got_is s w1 H1.out.1.env (E 2) (E 3) H1.out.1.long H1.out.1.form l HL.out.1 (by rw [HL.out.2]; omega)).mono ?_
  rintro e w2 ⟨k2, p2⟩
  have H2 := Lib.hid (And.intro (H1.out.2.grown k2 (by simp)) (grown_trans K1.out k2))
  have HRP := Lib.hid (rparse_is s l HL.out.1 (by omega) w2)
  clear k2
  cases hp : parseLs (splitP 10 l) with
  | none =>
    rw [hp] at p2
    subst p2
    have HPN := Lib.hid hp
    clear hp
    go_wp2_with fail
    refine HRP.out.mono ?_
    rintro e w3 ⟨k3, p3⟩
    rw [HPN.out] at p3
    subst p3
    have H3 := Lib.hid (And.intro (H2.out.1.grown k3 (by simp)) (grown_trans H2.out.2 k3))
    have HS := Lib.hid (same_is w3 none none 0 0 0 [] [] rfl rfl (row_nil _ _) (row_nil _ _) (by simp) (by simp) (by simp) (by decide))
    clear k3
    go_wp2_with fail
    refine HS.out.mono ?_
    rintro e w4 ⟨rfl, k4⟩
    have H4 := Lib.hid (And.intro (H3.out.1.grown k4 (by simp)) (grown_trans H3.out.2 k4))
    clear k4
    go_wp2_with fail
    refine (num_err w4 _ E 3 (by omega) H4.out.1).mono ?_
    rintro e w5 ⟨rfl, k5⟩
    have HK5 := Lib.hid (grown_trans H4.out.2 k5)
    clear k5
    go_wp2_with fail
    go_ret
    exact ⟨rfl, HK5.out⟩
  | some vs =>
    rw [hp] at p2
    obtain ⟨os, hos, A, c, rfl, hgot⟩ := p2
    obtain ⟨n, hn⟩ : ∃ n, n = os.length := ⟨_, rfl⟩
    rw [← hn]
    have HPN := Lib.hid (And.intro hp (And.intro hos (And.intro hgot hn)))
    clear hp hos hgot hn
    go_wp2_with fail
    refine HRP.out.mono ?_
    rintro e w3 ⟨k3, p3⟩
    rw [HPN.out.1] at p3
    obtain ⟨rs, hrs, B, d, rfl, hown, hro⟩ := p3
    have hrl : rs.length = n := by
      have h := congrArg List.length hrs
      rw [List.length_map, ← HPN.out.2.1, List.length_map] at h
      rw [HPN.out.2.2.2, h]
    have H3 := Lib.hid (And.intro (H2.out.1.grown k3 (by simp)) (grown_trans H2.out.2 k3))
    have hg3 := HPN.out.2.2.1.gr k3
    have HS := Lib.hid (same_is w3 A B n c d os rs HPN.out.2.2.2.symm (by rw [hrs, HPN.out.2.1]) hg3.row (rowR_own hrl (by rw [← hrl]; exact hown)) hg3.lies (fun o ho => (hro o ho).at) hg3.fit (by rw [HPN.out.2.2.2]; exact Nat.le_trans hg3.few (by decide)))
    rw [hrl]
    clear k3 hrs hown hro hrl hg3
    go_wp2_with fail
    refine HS.out.mono ?_
    rintro e w4 ⟨rfl, k4⟩
    have H4 := Lib.hid (grown_trans H3.out.2 k4)
    clear k4
    go_wp2_with fail
    refine (num_nil w4).mono ?_
    rintro e w5 ⟨rfl, rfl⟩
    go_wp2_with fail
    go_ret
    exact ⟨rfl, H4.out⟩
end Go.Proofs.YtonkdcbmmdhjgaaDoor
