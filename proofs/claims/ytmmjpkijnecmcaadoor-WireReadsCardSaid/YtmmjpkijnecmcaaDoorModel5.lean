/-
  The reference reader's Flag, Bytes, Many; Fixed, where it answers none.
-/
import Derived.Test.YtmmjpkijnecmcaaDoorModel4
import Derived.Deep.RegionHeld3
import Derived.OwnWalk
namespace Go.Proofs.YtmmjpkijnecmcaaDoor
open Go.RowKit

theorem u8i : (Tryd.prog.info? 5).map (fun i => (i.zero, i.size, i.bytes)) = some (some (.int .u8 0), 1, 1) := by kernel_rfl

section
variable (w : World) (m : Nat) (A : Option Addr) (c : Nat) (b : List UInt8) (e : Nat) (l : List UInt8)
theorem mflag_is (r : Bool) (e' : Nat) (l' : List UInt8) (hp : pFlag e l = (r, e', l')) (hl : b.length ≤ 1000000000) (h : MdEnd w m A c b e l) :
    Calls Tryd.prog 50 #[.pointer (some ⟨m, 0, none⟩)] w fun en w' => en = .returned (.bool r) ∧ MdEnd w' m A c b e' l' ∧ Kept (fun j => j = m) w w' := by
  have hz := pNum_zero (width := 1) (e := e) (l := l)
  obtain ⟨n1, e1, l1, hq⟩ : ∃ n1 e1 l1, pNum 1 e l = (n1, e1, l1) := ⟨_, _, _, rfl⟩
  unfold pFlag at hp
  rw [hq] at hp hz
  simp only [Prod.mk.injEq] at hp hz
  obtain ⟨hb, he', rfl⟩ := hp
  have Hq := Lib.hid hq
  have H := Lib.hid h
  have Hb := Lib.hid hb
  have He := Lib.hid he'
  clear hq h hb he'
  go_enter Tryd.func50, Tryd.ntmps50
  go_wp2_with fail
  refine (mnum_is w m A c b e l 1 n1 e1 l1 Hq.out hl H.out).mono ?_
  rintro en w1 ⟨rfl, ⟨k, hm, hd⟩, k1⟩
  have c2 : w1.cell? ⟨m, 2, none⟩ = some (.int .i64 (e1 : Int)) := hm.1.cell 2
  by_cases h0 : e1 = 0
  · have b0 : ((e1 : Int) == 0) = true := by rw [h0]; rfl
    by_cases h1 : 1 < n1
    · have b1 : decide ((1 : Int) < (n1 : Int)) = true := by simp; omega
      have HM := Lib.hid hm
      have H0 := Lib.hid (And.intro h0 h1)
      clear hm hd h0 h1 hz
      go_wp2_with fail
      refine (mfail w1 m A c b k e1 4 4 (if_pos H0.out.1) HM.out).mono ?_
      rintro en w2 ⟨rfl, h2, k2⟩
      go_wp2_with fail
      go_ret
      refine ⟨?_, ⟨k, ?_, fun h => ?_⟩, k1.then k2 (fun _ _ h => h)⟩
      · rw [← Hb.out, beq_eq_false_iff_ne.2 (show n1 ≠ 1 by have := H0.out.2; omega)]; rfl
      · rw [← He.out, if_pos H0.out]; exact h2
      · rw [← He.out, if_pos H0.out] at h; exact absurd h (by omega)
    · have b1 : decide ((1 : Int) < (n1 : Int)) = false := by simp; omega
      have b2 : ((n1 : Int) == 1) = r := by
        rw [← Hb.out]
        by_cases h : n1 = 1
        · rw [h]; rfl
        · have : ¬ ((n1 : Int) = 1) := by omega
          simp only [beq_eq_false_iff_ne.2 h, beq_eq_false_iff_ne.2 this]
      have HM := Lib.hid (And.intro hm hd)
      have H0 := Lib.hid h1
      clear hm hd h0 h1 hz
      go_wp2_with fail
      go_ret
      refine ⟨rfl, ⟨k, ?_, fun h => HM.out.2 ?_⟩, k1⟩
      · rw [← He.out, if_neg (fun h => H0.out h.2)]; exact HM.out.1
      · rw [← He.out, if_neg (fun h => H0.out h.2)] at h; exact h
  · have b0 : ((e1 : Int) == 0) = false := by simp; omega
    have hn := hz h0
    subst hn
    have HM := Lib.hid (And.intro hm h0)
    clear hm hd h0 hz
    go_wp2_with fail
    go_ret
    refine ⟨by rw [← Hb.out]; rfl, ⟨k, ?_, fun h => ?_⟩, k1⟩
    · rw [← He.out, if_neg (fun h => HM.out.2 h.1)]; exact HM.out.1
    · rw [← He.out, if_neg (fun h => HM.out.2 h.1)] at h; exact absurd h HM.out.2

theorem mmany_is (most : Int) (n1 e' : Nat) (l' : List UInt8) (v : Nat) (hv : (if e' = 0 then n1 else 0) = v) (hp : pMost 1 most e l = (n1, e', l')) (hl : b.length ≤ 1000000000) (h : MdEnd w m A c b e l) :
    Calls Tryd.prog 55 #[.pointer (some ⟨m, 0, none⟩), .int .i64 most] w fun en w' => en = .returned (.int .i64 (v : Int)) ∧ MdEnd w' m A c b e' l' ∧ Kept (fun j => j = m) w w' := by
  have hz := pNum_zero (width := 1) (e := e) (l := l)
  obtain ⟨n2, e1, l1, hq⟩ : ∃ n1 e1 l1, pNum 1 e l = (n1, e1, l1) := ⟨_, _, _, rfl⟩
  unfold pMost at hp
  rw [hq] at hp hz
  simp only [Prod.mk.injEq] at hp hz
  obtain ⟨rfl, he', rfl⟩ := hp
  have Hq := Lib.hid hq
  have H := Lib.hid h
  have He := Lib.hid he'
  have Hv := Lib.hid hv
  clear hq h he' hv
  go_enter Tryd.func55, Tryd.ntmps55
  go_wp2_with fail
  refine (mnum_is w m A c b e l 1 n2 e1 l1 Hq.out hl H.out).mono ?_
  rintro en w1 ⟨rfl, ⟨k, hm, hd⟩, k1⟩
  have c2 : w1.cell? ⟨m, 2, none⟩ = some (.int .i64 (e1 : Int)) := hm.1.cell 2
  by_cases h0 : e1 = 0
  · have b0 : ((e1 : Int) == 0) = true := by rw [h0]; rfl
    by_cases h1 : most < (n2 : Int)
    · have b1 : decide (most < (n2 : Int)) = true := by simpa using h1
      have HM := Lib.hid hm
      have H0 := Lib.hid (And.intro h0 h1)
      clear hm hd h0 h1 hz
      go_wp2_with fail
      refine (mfail w1 m A c b k e1 1 1 (if_pos H0.out.1) HM.out).mono ?_
      rintro en w2 ⟨rfl, h2, k2⟩
      go_wp2_with fail
      go_ret
      have hE : e' = 1 := by rw [← He.out, if_pos H0.out]
      subst hE
      have hv0 : v = 0 := by rw [← Hv.out]; rfl
      subst hv0
      exact ⟨rfl, ⟨k, h2, fun h => absurd h (by omega)⟩, k1.then k2 (fun _ _ h => h)⟩
    · have b1 : decide (most < (n2 : Int)) = false := by simpa using h1
      have HM := Lib.hid (And.intro hm hd)
      have hE : e1 = e' := by rw [← He.out, if_neg (fun h => h1 h.2)]
      have hE0 : e' = 0 := by omega
      subst hE0
      have HV := Lib.hid (And.intro (show n2 = v by rw [← Hv.out, if_pos rfl]) hE)
      clear hm hd h0 h1 hz hE
      go_wp2_with fail
      go_ret
      have h1 := HM.out.1
      rw [HV.out.2] at h1
      rw [HV.out.1]
      exact ⟨rfl, ⟨k, h1, fun _ => HM.out.2 HV.out.2⟩, k1⟩
  · have b0 : ((e1 : Int) == 0) = false := by simp; omega
    have hn := hz h0
    subst hn
    have hE : e' = e1 := by rw [← He.out, if_neg (fun h => h0 h.1)]
    subst hE
    have HM := Lib.hid (And.intro hm h0)
    clear hm hd h0 hz
    go_wp2_with fail
    go_ret
    have hv0 : v = 0 := by rw [← Hv.out, if_neg HM.out.2]
    subst hv0
    exact ⟨rfl, ⟨k, HM.out.1, fun h => absurd h HM.out.2⟩, k1⟩
end
theorem run_bytes_none (V : World) : Sem.run Tryd.prog (Instr.buildSlice 27 0 #[]) V = .ok (.slice (some ⟨V.heap.size, 0, none⟩) 0 0) (V.alloc (.cells #[] 5)) := by
  cases hq : Tryd.prog.info? 5 with
  | none => exact absurd (show (Tryd.prog.info? 5).isSome = true by kernel_rfl) (by rw [hq]; simp)
  | some i =>
    simp [Instr.buildSlice, run_underlying Tryd.underlying27, sizeOf, typeInfo, hq, newRow, Instr.fill]
    have e : Array.range 0 = #[] := Array.eq_empty_of_size_eq_zero (by simp)
    rw [e, Array.map_empty]
theorem wp_bslice0 {P : Program} {o : Oper} {a : Act} {w w' : World} {K : Act → World → Prop} {Q : Exit → Act → World → Prop} (t : TypeId) (ho : o.op = .buildSlice t 0 #[]) (V : Value)
    (hr : Sem.run P (Instr.buildSlice t 0 #[]) w = .ok V w') (h : K (a.put o.dst V) w') : o.wp P a w K Q := by
  unfold Oper.wp execOp
  simp only [ho, Sem.run_bind, List.map_toArray, List.map_nil, hr, Result.andThen_ok]
  exact h
theorem slice_mid (A : Option Addr) (n c k j : Nat) (hk : k ≤ j) (hj : j ≤ c) (w : World) :
    (Instr.slice 27 (.slice A n c) (some (.int .i64 (k : Int))) (some (.int .i64 (j : Int))) none).run Tryd.prog w = .ok (.slice (cutA A c k) (j - k) (c - k)) w := by
  rw [run_slice_lh w 27 A n c bytes_slice .i64 .i64 (k : Int) (j : Int) (by omega) (by omega) (by omega), bytes_size]
  simp [Result.andThen, sliced, cutA]
end Go.Proofs.YtmmjpkijnecmcaaDoor
