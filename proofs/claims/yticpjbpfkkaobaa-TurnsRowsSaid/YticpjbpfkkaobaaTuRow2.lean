/-
  Package turns: Row, the walk.
-/
import Derived.Test.YticpjbpfkkaobaaTuRow
namespace Go.Proofs.Yticpjbpfkkaobaa
open Go.RowKit

theorem rowP_step {N t i r : Nat} {g : Nat → Bool} (h : i < 2 * N) : rowP N t g (2 * N - i) r = if g (i % N) then rowP N t g (2 * N - (i + 1)) 0 else if t ≤ r + 1 then true else rowP N t g (2 * N - (i + 1)) (r + 1) := by
  obtain ⟨rem, hr⟩ : ∃ rem, 2 * N - i = rem + 1 := ⟨2 * N - i - 1, by omega⟩
  rw [hr, show 2 * N - (i + 1) = rem by omega]
  have e : 2 * N - (rem + 1) = i := by omega
  simp only [rowP, e]

theorem tmod_nat (i N : Nat) : ((i : Int)).tmod (N : Int) = ((i % N : Nat) : Int) := rfl

set_option maxHeartbeats 2000000 in
theorem row_good (w : World) (A : Option Addr) (n c : Nat) (l : List Int) (N t : Nat) (Nn long : Int) (hNn : Nn = (N : Int)) (h1 : 1 ≤ N) (h7 : N ≤ 7) (hl1 : 1 ≤ long) (ht : (t : Int) = if long ≤ Nn then long else Nn) (hn : l.length = n) (h100 : n ≤ 100) (hz : IntsAt w A l) :
    Calls Try.prog 9 #[.int .i64 Nn, .int .i64 long, .slice A n c] w fun e w' => e = .returned (.bool (rowP N t (badF l) (2 * N) 0)) ∧ w = w' := by
  obtain ⟨ans, hans⟩ : ∃ ans, rowP N t (badF l) (2 * N) 0 = ans := ⟨_, rfl⟩
  rw [hans]
  have hc : inCircle Nn = true := by simp [inCircle]; omega
  have dl : decide (long < (1 : Int)) = false := by simp; omega
  obtain ⟨T, s1, hT⟩ : ∃ T : Int, wrap64 (2 * Nn) = T ∧ T = 2 * (N : Int) := ⟨_, w64 _ ⟨by omega, by omega⟩, by omega⟩
  have hz0 : ¬ Nn = 0 := by omega
  have HN := Lib.hid (And.intro hNn (And.intro h1 (And.intro h7 hT)))
  have HA := Lib.hid hans
  have HL := Lib.hid (And.intro hn h100)
  have HT := Lib.hid ht
  have H1 := Lib.hid hl1
  clear hNn h1 h7 hT hans hn h100 ht hl1
  go_enter Try.func9, Try.ntmps9
  go_wp2_with (go_at_call 14; refine (circle_is _ _).mono ?_; rintro e w1 ⟨rfl, rfl⟩)
  rw [s1]
  clear s1
  go_loop [7, 16] (fun r i => ∃ i0 r0 : Nat, i0 ≤ 2 * N ∧ r0 ≤ i0 ∧ i = .int .i64 (i0 : Int) ∧ r = .int .i64 (r0 : Int) ∧ rowP N t (badF l) (2 * N - i0) r0 = ans) (fun _ i => 15 - (intOf i).toNat)
  case atStart => exact ⟨0, 0, Nat.zero_le _, Nat.le_refl _, rfl, rfl, HA.out⟩
  case round =>
    obtain ⟨i0, r0, hi0, hr0, hi, hr, hs⟩ := hrel
    obtain ⟨I, hI⟩ : ∃ I : Int, I = (i0 : Int) := ⟨_, rfl⟩
    obtain ⟨R, hR⟩ : ∃ R : Int, R = (r0 : Int) := ⟨_, rfl⟩
    rw [← hI] at hi
    rw [← hR] at hr
    subst hi hr
    have HS := Lib.hid hs
    clear hs
    obtain ⟨hNn, h1, h7, hT⟩ := HN.out
    by_cases hlt : i0 < 2 * N
    · have d1 : decide (I < T) = true := by simp; omega
      obtain ⟨Q, hq1, hq2⟩ : ∃ Q : Int, I.tmod Nn = Q ∧ Q = ((i0 % N : Nat) : Int) := ⟨_, rfl, by rw [hI, hNn]; exact tmod_nat i0 N⟩
      have hlt7 : i0 % N < N := Nat.mod_lt _ (by omega)
      have hq3 : wrap64 Q = Q := w64 _ ⟨by omega, by omega⟩
      have hbad : decide (Q ∈ l) = badF l (i0 % N) := by rw [hq2]; exact badF_at l _ (by omega)
      have step := rowP_step (t := t) (r := r0) (g := badF l) hlt
      have s2 : wrap64 (I + 1) = I + 1 := w64 _ ⟨by omega, by omega⟩
      have HI := Lib.hid (And.intro hI (And.intro hR (And.intro hlt hr0)))
      have HST := Lib.hid step
      by_cases hb : badF l (i0 % N) = true
      · rw [hb] at hbad
        have HB := Lib.hid (And.intro hbad hb)
        clear hbad hb hlt hq2 hlt7 step hNn h1 h7 hT hI hR hi0 hr0
        go_wp2_with fail
        refine (contains_is _ A n c l Q true HB.out.1 HL.out.1 HL.out.2 hz).mono ?_
        rintro e w1 ⟨rfl, rfl⟩
        go_wp2_with fail
        go_round
        case rel =>
          obtain ⟨hI, hR, hlt, hr0⟩ := HI.out
          refine ⟨i0 + 1, 0, by omega, by omega, by rw [hI] at s2 ⊢; simpa using s2, rfl, ?_⟩
          have := HST.out
          rw [HB.out.2, if_pos rfl] at this
          rw [← this]; exact HS.out
        case measure =>
          obtain ⟨hI, hR, hlt, hr0⟩ := HI.out
          obtain ⟨hNn, h1, h7, hT⟩ := HN.out
          simp only [intOf, s2]
          omega
      · have hb' : badF l (i0 % N) = false := by simpa using hb
        rw [hb'] at hbad
        have HB := Lib.hid (And.intro hbad hb')
        have s3 : wrap64 (R + 1) = R + 1 := w64 _ ⟨by omega, by omega⟩
        by_cases hle : long ≤ Nn
        · by_cases htr : t ≤ r0 + 1
          · have d2 : decide (long ≤ R + 1) = true := by have := HT.out; rw [if_pos hle] at this; simp; omega
            have hans : ans = true := by
              have := HST.out
              rw [hb', if_neg (by simp), if_pos htr] at this
              rw [← HS.out]; exact this
            have HR := Lib.hid hans
            clear hbad hb hb' hlt hq2 hlt7 step hNn h1 h7 hT hI hR hi0 hr0 htr hans
            go_wp2_with fail
            refine (contains_is _ A n c l Q false HB.out.1 HL.out.1 HL.out.2 hz).mono ?_
            rintro e w1 ⟨rfl, rfl⟩
            go_wp2_with fail
            go_ret
            exact ⟨by rw [HR.out]; rfl, rfl⟩
          · have d2 : decide (long ≤ R + 1) = false := by have := HT.out; rw [if_pos hle] at this; simp; omega
            have hnext : rowP N t (badF l) (2 * N - (i0 + 1)) (r0 + 1) = ans := by
              have := HST.out
              rw [hb', if_neg (by simp), if_neg htr] at this
              rw [← this]; exact HS.out
            have HR := Lib.hid hnext
            clear hbad hb hb' hlt hq2 hlt7 step hNn h1 h7 hT hI hR hi0 hr0 htr hnext
            go_wp2_with fail
            refine (contains_is _ A n c l Q false HB.out.1 HL.out.1 HL.out.2 hz).mono ?_
            rintro e w1 ⟨rfl, rfl⟩
            go_wp2_with fail
            go_round
            case rel =>
              obtain ⟨hI, hR, hlt, hr0⟩ := HI.out
              exact ⟨i0 + 1, r0 + 1, by omega, by omega, by rw [hI] at s2 ⊢; simpa using s2, by rw [hR] at s3 ⊢; simpa using s3, HR.out⟩
            case measure =>
              obtain ⟨hI, hR, hlt, hr0⟩ := HI.out
              obtain ⟨hNn, h1, h7, hT⟩ := HN.out
              simp only [intOf, s2]
              omega
        · by_cases htr : t ≤ r0 + 1
          · have d2 : decide (Nn ≤ R + 1) = true := by have := HT.out; rw [if_neg hle] at this; simp; omega
            have hans : ans = true := by
              have := HST.out
              rw [hb', if_neg (by simp), if_pos htr] at this
              rw [← HS.out]; exact this
            have HR := Lib.hid hans
            clear hbad hb hb' hlt hq2 hlt7 step hNn h1 h7 hT hI hR hi0 hr0 htr hans
            go_wp2_with fail
            refine (contains_is _ A n c l Q false HB.out.1 HL.out.1 HL.out.2 hz).mono ?_
            rintro e w1 ⟨rfl, rfl⟩
            go_wp2_with fail
            go_ret
            exact ⟨by rw [HR.out]; rfl, rfl⟩
          · have d2 : decide (Nn ≤ R + 1) = false := by have := HT.out; rw [if_neg hle] at this; simp; omega
            have hnext : rowP N t (badF l) (2 * N - (i0 + 1)) (r0 + 1) = ans := by
              have := HST.out
              rw [hb', if_neg (by simp), if_neg htr] at this
              rw [← this]; exact HS.out
            have HR := Lib.hid hnext
            clear hbad hb hb' hlt hq2 hlt7 step hNn h1 h7 hT hI hR hi0 hr0 htr hnext
            go_wp2_with fail
            refine (contains_is _ A n c l Q false HB.out.1 HL.out.1 HL.out.2 hz).mono ?_
            rintro e w1 ⟨rfl, rfl⟩
            go_wp2_with fail
            go_round
            case rel =>
              obtain ⟨hI, hR, hlt, hr0⟩ := HI.out
              exact ⟨i0 + 1, r0 + 1, by omega, by omega, by rw [hI] at s2 ⊢; simpa using s2, by rw [hR] at s3 ⊢; simpa using s3, HR.out⟩
            case measure =>
              obtain ⟨hI, hR, hlt, hr0⟩ := HI.out
              obtain ⟨hNn, h1, h7, hT⟩ := HN.out
              simp only [intOf, s2]
              omega
    · have d1 : decide (I < T) = false := by simp; omega
      have hans : ans = false := by
        rw [← HS.out, show 2 * N - i0 = 0 by omega]
        rfl
      have HR := Lib.hid hans
      clear hlt hNn h1 h7 hT hI hR hi0 hr0 hans
      go_wp2_with fail
      go_ret
      exact ⟨by rw [HR.out]; rfl, rfl⟩
end Go.Proofs.Yticpjbpfkkaobaa
