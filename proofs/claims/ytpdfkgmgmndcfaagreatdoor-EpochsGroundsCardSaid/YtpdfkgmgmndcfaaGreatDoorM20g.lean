/-
  Several texts in one: Sh6, Sh7.
-/
import Derived.Test.YtpdfkgmgmndcfaaGreatDoorM20f
/-
  SHA-256: the end is written.
-/

namespace Go.Proofs.YtpdfkgmgmndcfaaGreatDoor
open Go.RowKit

def padS (s : HS) : HS := if 56 < (pushS s 128).n % 64 then writeS (pushS s 128) (List.replicate (64 - (pushS s 128).n % 64) 0) else pushS s 128
def finS (s : HS) : HS := writeS (writeS (padS s) (List.replicate (56 - (padS s).n % 64) 0)) (wordB (((s.n * 8 : Nat) : Int) / 4294967296 % 4294967296) ++ wordB (((s.n * 8 : Nat) : Int) % 4294967296))
theorem padS_n (s : HS) : (padS s).n % 64 ≤ 56 ∧ s.n ≤ (padS s).n ∧ (padS s).n ≤ s.n + 64 := by
  have := pushS_n s 128
  unfold padS
  split
  · rw [writeS_n, List.length_replicate]; omega
  · omega

theorem rep0 (n j : Nat) : (List.replicate n (0 : Int)).getD j 0 = 0 := by
  simp only [List.getD, List.getElem?_replicate]
  split <;> rfl
theorem BytesI.blk {w : World} {g o : Nat} {t : TypeId} {l x : List Int} (h : Blk w g t (arrV .u8 l)) (hx : ∀ j, j < x.length → o + j < l.length ∧ x.getD j 0 = l.getD (o + j) 0) : BytesI w (some ⟨g, o, none⟩) x := fun _ => ⟨_, rfl, fun j hj => by
  obtain ⟨h1, h2⟩ := hx j hj
  rw [show (⟨g, o, none⟩ : Addr).add j = ⟨g, o + j, none⟩ by simp [Addr.add], h.cell, arr_get h1, h2]⟩
theorem HashIs.count {w : World} {g : Nat} {s : HS} (h : HashIs w g s) : w.cell? ⟨g, 72, none⟩ = some (.int .i64 (s.n : Int)) := by
  rw [h.1.cell, show 72 = s.ws.length + s.bs.length by rw [h.2.1, h.2.2]]; exact hashV_count
theorem HashIs.grown {w w' : World} {g : Nat} {s : HS} {row : Option Nat} (h : HashIs w g s) (hg : w.grownBy w' row) (hr : some g ≠ row) : HashIs w' g s := ⟨h.1.grown hg hr, h.2⟩
theorem made_zero (n : Nat) : madeCells (Value.int .u8 0).cells (n * 1) = arrV .u8 (List.replicate n 0) := by
  apply Array.ext
  · simp [size_madeCells, arrV]
  · intro i h1 h2
    simp [madeCells, arrV, Value.cells, Nat.mod_one]
theorem make_bytes (w : World) (n : Nat) (h : n ≤ 64) : Sem.run Tryz.prog (Instr.makeSlice 60 (.int .i64 (n : Int)) (.int .i64 (n : Int))) w = .ok (.slice (some ⟨w.heap.size, 0, none⟩) n n) (w.alloc (.cells (arrV .u8 (List.replicate n 0)) 5)) := by
  obtain ⟨i, hi, h2, h3, h4⟩ := info_parts (show (Tryz.prog.info? 5).map (fun i => (i.zero, i.size, i.bytes)) = some (some (.int .u8 0), 1, 1) by kernel_rfl)
  have hr := run_make (P := Tryz.prog) w 60 5 i (.int .u8 0) Tryz.underlying60 hi h2 .i64 .i64 (n : Int) (n : Int) (by omega) (Int.le_refl _) (by rw [h4]; omega) (by omega)
  rw [hr, h3]
  simp only [Int.toNat_natCast, made_zero]

theorem sl64_from (w : World) (b q : Nat) (h : q < 64) : Sem.run Tryz.prog (Instr.sliceAt 120 (.pointer (some ⟨b, 0, none⟩)) (some (.int .i64 (q : Int))) none none) w = .ok (.slice (some ⟨b, q, none⟩) (64 - q) (64 - q)) w := by
  have := slice_from (P := Tryz.prog) (w := w) (b := b) (o := 0) (t := 120) Tryz.underlying120 (by kernel_rfl) h
  rwa [Nat.zero_add] at this
theorem sl64_to (w : World) (b q : Nat) (h : q ≤ 64) : Sem.run Tryz.prog (Instr.sliceAt 120 (.pointer (some ⟨b, 0, none⟩)) none (some (.int .i64 (q : Int))) none) w = .ok (.slice (some ⟨b, 0, none⟩) q 64) w :=
  slice_to (P := Tryz.prog) (w := w) (b := b) (o := 0) (t := 120) Tryz.underlying120 (by kernel_rfl) h
/-- The eight bytes at the end. -/
def endB (N : Nat) : List Int := wordB ((N : Int) / 4294967296 % 4294967296) ++ wordB ((N : Int) % 4294967296)
theorem endB_get (l : List Int) (N : Nat) (hl : l.length = 64) : ∀ j, j < (endB N).length → 0 + j < (over (over l 0 (wordB ((N : Int) / 4294967296 % 4294967296))) 4 (wordB ((N : Int) % 4294967296))).length ∧ (endB N).getD j 0 = (over (over l 0 (wordB ((N : Int) / 4294967296 % 4294967296))) 4 (wordB ((N : Int) % 4294967296))).getD (0 + j) 0 := by
  intro j hj
  have h8 : (endB N).length = 8 := rfl
  rw [h8] at hj
  refine ⟨by rw [over_length, over_length, hl]; omega, ?_⟩
  obtain ⟨a0, a1, a2, a3, a4, a5, a6, a7, r, rfl⟩ : ∃ a0 a1 a2 a3 a4 a5 a6 a7 r, l = a0 :: a1 :: a2 :: a3 :: a4 :: a5 :: a6 :: a7 :: r := by
    match l, hl with
    | a0 :: a1 :: a2 :: a3 :: a4 :: a5 :: a6 :: a7 :: r, _ => exact ⟨a0, a1, a2, a3, a4, a5, a6, a7, r, rfl⟩
  have : j = 0 ∨ j = 1 ∨ j = 2 ∨ j = 3 ∨ j = 4 ∨ j = 5 ∨ j = 6 ∨ j = 7 := by omega
  rcases this with rfl | rfl | rfl | rfl | rfl | rfl | rfl | rfl <;> rfl

set_option maxRecDepth 100000 in
set_option maxHeartbeats 1000000 in
theorem finish_is (w : World) (g : Nat) (s : HS) (hH : HashIs w g s) (hg : g ≠ 18) (hR : Rounds w) (hn : s.n ≤ 1073741824) :
    Calls Tryz.prog 66 #[.pointer (some ⟨g, 0, none⟩)] w fun e w' => e = .returned (.tuple #[]) ∧ HashIs w' g (finS s) ∧ w.grownBy w' (some g) := by
  have c1 := hH.count
  have hlt := hH.1.lt
  have HH := Lib.hid hH
  have HR := Lib.hid hR
  have HN := Lib.hid (And.intro hn (And.intro hg hlt))
  have e1 : IntKind.u64.wrap (s.n : Int) = (s.n : Int) := by rw [IntKind.wrap_u64]; omega
  have e2 : IntKind.u64.wrap ((s.n : Int) * 8) = (s.n : Int) * 8 := by rw [IntKind.wrap_u64]; omega
  have HE := Lib.hid (And.intro e1 e2)
  clear hH hR hn hg hlt
  go_enter Tryz.func66, Tryz.ntmps66
  go_wp2_with fail
  have hA0 := Blk.new w 5 (arrV .u8 [128])
  have HA := Lib.hid hA0
  have hgA := World.grownBy_alloc w (.cells (arrV .u8 [128]) 5) none
  have HGA := Lib.hid hgA
  clear hA0 hgA e1 e2
  generalize hwa : w.alloc (.cells #[.int .u8 128] 5) = wa
  rw [show w.alloc (.cells (arrV .u8 [128]) 5) = wa from hwa] at HA HGA
  clear hwa
  refine (write_is wa g s (HH.out.grown HGA.out (by simp)) HN.out.2.1 (HR.out.grown HGA.out (by simp)) (some ⟨w.heap.size, 0, none⟩) 1 1 [128] rfl (BytesI.blk HA.out (fun j hj => by simp at hj; subst hj; simp)) (fun ad e _ => by obtain rfl := Option.some.inj e; exact fun h => by have := HN.out.2.2; simp at h; omega) (Nat.le_refl _) (by have := HN.out.1; omega)).mono ?_
  rintro e w1 ⟨rfl, hH1, hk1⟩
  obtain ⟨s1, hs1⟩ : ∃ s1, s1 = pushS s 128 := ⟨_, rfl⟩
  have hn1 : s1.n = s.n + 1 := by rw [hs1, pushS_n]
  have hH1 : HashIs w1 g s1 := by rw [hs1]; exact hH1
  have hgr : w.grownBy w1 (some g) := grown_trans (grown_weak HGA.out _) hk1
  have hpad : padS s = if 56 < s1.n % 64 then writeS s1 (List.replicate (64 - s1.n % 64) 0) else s1 := by rw [hs1]; rfl
  have c1 := hH1.count
  have HS := Lib.hid (And.intro hs1 (And.intro hn1 hpad))
  have HH1 := Lib.hid hH1
  have HG1 := Lib.hid hgr
  have hnn : s1.n ≤ 1073741825 := by have := HN.out.1; omega
  have hmodi : ((s1.n : Int)) % 64 = ((s1.n % 64 : Nat) : Int) := by omega
  obtain ⟨q, hq⟩ : ∃ q, q = s1.n % 64 := ⟨_, rfl⟩
  rw [← hq] at hmodi hpad
  have hq64 : q < 64 := by omega
  have hmk : ∀ w, Sem.run Tryz.prog (Instr.makeSlice 60 (.int .i64 (64 - (s1.n : Int) % 64)) (.int .i64 (64 - (s1.n : Int) % 64))) w = .ok (.slice (some ⟨w.heap.size, 0, none⟩) (64 - q) (64 - q)) (w.alloc (.cells (arrV .u8 (List.replicate (64 - q) 0)) 5)) := fun w => by
    have := make_bytes w (64 - q) (by omega)
    rw [show ((64 - q : Nat) : Int) = 64 - (s1.n : Int) % 64 by rw [hmodi]; omega] at this
    exact this
  have hal : ∀ o, (w1.alloc o).cell? ⟨g, 72, none⟩ = some (.int .i64 (s1.n : Int)) := fun o => by
    rw [HashIs.count (HH1.out.grown (World.grownBy_alloc w1 o none) (by simp))]
  have HQ := Lib.hid (And.intro hq (And.intro hq64 (And.intro hmodi (And.intro hnn hpad))))
  clear hH1 hk1 hgr hs1 hn1 hnn hq hpad hmodi HA HGA HH
  by_cases hov : 56 < q
  · have hd : decide (56 < (s1.n : Int) % 64) = true := by rw [HQ.out.2.2.1]; simp; omega
    clear hq64 hal
    go_wp2_with fail
    have hgA := World.grownBy_alloc w1 (.cells (arrV .u8 (List.replicate (64 - q) 0)) 5) none
    have hA := Blk.new w1 5 (arrV .u8 (List.replicate (64 - q) 0))
    have hlt1 : g < w1.heap.size := HH1.out.1.lt
    generalize w1.alloc (.cells (arrV .u8 (List.replicate (64 - q) 0)) 5) = wa1 at *
    refine (write_is wa1 g s1 (HH1.out.grown hgA (by simp)) HN.out.2.1 ((HR.out.grown HG1.out (by intro e; exact HN.out.2.1 (Option.some.inj e).symm)).grown hgA (by simp)) (some ⟨w1.heap.size, 0, none⟩) (64 - q) (64 - q) (List.replicate (64 - q) 0) (by simp) (BytesI.blk hA (fun j hj => by simp at hj; simp [hj])) (fun ad e _ => by obtain rfl := Option.some.inj e; exact fun h => by simp at h; omega) (Nat.le_refl _) (by have := HQ.out; omega)).mono ?_
    rintro e w2 ⟨rfl, hH2, hk2⟩
    have hG2 : w.grownBy w2 (some g) := grown_trans HG1.out (grown_trans (grown_weak hgA _) hk2)
    have hp2 : padS s = writeS s1 (List.replicate (64 - q) 0) := by rw [HQ.out.2.2.2.2, if_pos hov]
    obtain ⟨s2, hs2⟩ : ∃ s2, s2 = padS s := ⟨_, rfl⟩
    rw [← hp2, ← hs2] at hH2
    clear hgA hA hlt1 hk2 hp2 hov hd hmk
    obtain ⟨q2, hq2⟩ : ∃ q2, q2 = s2.n % 64 := ⟨_, rfl⟩
    have hpn := padS_n s
    rw [← hs2, ← hq2] at hpn
    have hsl2 : ∀ w b, Sem.run Tryz.prog (Instr.sliceAt 120 (.pointer (some ⟨b, 0, none⟩)) none (some (.int .i64 (56 - (s2.n : Int) % 64))) none) w = .ok (.slice (some ⟨b, 0, none⟩) (56 - q2) 64) w := fun w b => by
      have := sl64_to w b (56 - q2) (by omega)
      rw [show ((56 - q2 : Nat) : Int) = 56 - (s2.n : Int) % 64 by omega] at this
      exact this
    have HP := Lib.hid (And.intro hs2 (And.intro hq2 hpn))
    have HH2 := Lib.hid hH2
    have HG2 := Lib.hid hG2
    have hal : ∀ o, (w2.alloc o).cell? ⟨g, 72, none⟩ = some (.int .i64 (s2.n : Int)) := fun o => by
      rw [HashIs.count (HH2.out.grown (World.grownBy_alloc w2 o none) (by simp))]
    have hc2 := hH2.count
    clear hs2 hq2 hpn hH2 hG2
    go_wp2_with fail
    clear hal hsl2 hc2
    rw [← z64b]
    have HA := Lib.hid (Blk.new w2 120 (arrV .u8 (List.replicate 64 0)))
    have HGA := Lib.hid (World.grownBy_alloc w2 (.cells (arrV .u8 (List.replicate 64 0)) 120) none)
    have HLT := Lib.hid (And.intro HH2.out.1.lt HG2.out.size)
    generalize w2.alloc (.cells (arrV .u8 (List.replicate 64 0)) 120) = wa2 at *
    refine (write_is wa2 g s2 (HH2.out.grown HGA.out (by simp)) HN.out.2.1 ((HR.out.grown HG2.out (by intro e; exact HN.out.2.1 (Option.some.inj e).symm)).grown HGA.out (by simp)) (some ⟨w2.heap.size, 0, none⟩) (56 - q2) 64 (List.replicate (56 - q2) 0) (by simp) (BytesI.blk HA.out (fun j hj => by rw [List.length_replicate] at hj; exact ⟨by rw [List.length_replicate]; omega, by rw [rep0, rep0]⟩)) (fun ad e _ => by obtain rfl := Option.some.inj e; exact fun h => by have := HLT.out.1; simp at h; omega) (by omega) (by have := HP.out; have := HN.out.1; omega)).mono ?_
    rintro e w3 ⟨rfl, hH3, hk3⟩
    have HH3 := Lib.hid hH3
    have HB3 := Lib.hid (HA.out.grown hk3 (by intro e; have := Option.some.inj e; have := HLT.out.1; omega))
    have HG3 := Lib.hid (grown_trans HG2.out (grown_trans (grown_weak HGA.out _) hk3))
    clear hH3 hk3 HA HGA HH2 HG2
    have hs0 : ∀ w b, Sem.run Tryz.prog (Instr.sliceAt 120 (.pointer (some ⟨b, 0, none⟩)) (some (.int .i64 0)) none none) w = .ok (.slice (some ⟨b, 0, none⟩) 64 64) w := fun w b => sl64_from w b 0 (by omega)
    have hs4 : ∀ w b, Sem.run Tryz.prog (Instr.sliceAt 120 (.pointer (some ⟨b, 0, none⟩)) (some (.int .i64 4)) none none) w = .ok (.slice (some ⟨b, 4, none⟩) 60 60) w := fun w b => sl64_from w b 4 (by omega)
    have hs8 : ∀ w b, Sem.run Tryz.prog (Instr.sliceAt 120 (.pointer (some ⟨b, 0, none⟩)) none (some (.int .i64 8)) none) w = .ok (.slice (some ⟨b, 0, none⟩) 8 64) w := fun w b => sl64_to w b 8 (by omega)
    go_wp2_with fail
    refine (put_is w3 w2.heap.size 0 64 64 120 (List.replicate 64 0) _ HB3.out (by simp) (by omega)).mono ?_
    rintro e w4 ⟨rfl, hB4, hk4⟩
    have HB4 := Lib.hid hB4
    have HH4 := Lib.hid (HH3.out.grown hk4 (by intro e; have := Option.some.inj e; have := HLT.out.1; omega))
    have HG4 := Lib.hid (grown_fresh HG3.out hk4 HLT.out.2)
    clear hB4 hk4 HB3 HH3 HG3
    go_wp2_with fail
    refine (put_is w4 w2.heap.size 4 60 60 120 _ _ HB4.out (by rw [over_length]; simp) (by omega)).mono ?_
    rintro e w5 ⟨rfl, hB5, hk5⟩
    have HB5 := Lib.hid hB5
    have HH5 := Lib.hid (HH4.out.grown hk5 (by intro e; have := Option.some.inj e; have := HLT.out.1; omega))
    have HG5 := Lib.hid (grown_fresh HG4.out hk5 HLT.out.2)
    clear hB5 hk5 HB4 HH4 HG4
    go_wp2_with fail
    refine (write_is w5 g _ HH5.out HN.out.2.1 (HR.out.grown HG5.out (by intro e; exact HN.out.2.1 (Option.some.inj e).symm)) (some ⟨w2.heap.size, 0, none⟩) 8 64 (endB (s.n * 8)) rfl (BytesI.blk HB5.out (endB_get _ _ (by simp))) (fun ad e _ => by obtain rfl := Option.some.inj e; exact fun h => by have := HLT.out.1; simp at h; omega) (by omega) (by rw [writeS_n]; have := HP.out; have := HN.out.1; simp; omega)).mono ?_
    rintro e w6 ⟨rfl, hH6, hk6⟩
    go_wp2_with fail
    go_end0
    refine ⟨rfl, ?_, grown_trans HG5.out hk6⟩
    have e1 : finS s = writeS (writeS s2 (List.replicate (56 - q2) 0)) (endB (s.n * 8)) := by rw [finS, HP.out.2.1, HP.out.1]; rfl
    rw [e1]
    exact hH6
  · have hd : decide (56 < (s1.n : Int) % 64) = false := by rw [HQ.out.2.2.1]; simp; omega
    have hs2 : s1 = padS s := by rw [HQ.out.2.2.2.2, if_neg hov]
    have hG2 := HG1.out
    have hH2 := HH1.out
    clear hq64 hov hmk hal c1 HS HQ HG1 HH1 hH1
    generalize s1 = s2 at *
    generalize w1 = w2 at *
    obtain ⟨q2, hq2⟩ : ∃ q2, q2 = s2.n % 64 := ⟨_, rfl⟩
    have hpn := padS_n s
    rw [← hs2, ← hq2] at hpn
    have hsl2 : ∀ w b, Sem.run Tryz.prog (Instr.sliceAt 120 (.pointer (some ⟨b, 0, none⟩)) none (some (.int .i64 (56 - (s2.n : Int) % 64))) none) w = .ok (.slice (some ⟨b, 0, none⟩) (56 - q2) 64) w := fun w b => by
      have := sl64_to w b (56 - q2) (by omega)
      rw [show ((56 - q2 : Nat) : Int) = 56 - (s2.n : Int) % 64 by omega] at this
      exact this
    have HP := Lib.hid (And.intro hs2 (And.intro hq2 hpn))
    have HH2 := Lib.hid hH2
    have HG2 := Lib.hid hG2
    have hal : ∀ o, (w2.alloc o).cell? ⟨g, 72, none⟩ = some (.int .i64 (s2.n : Int)) := fun o => by
      rw [HashIs.count (HH2.out.grown (World.grownBy_alloc w2 o none) (by simp))]
    have hc2 := hH2.count
    clear hs2 hq2 hpn hH2 hG2
    go_wp2_with fail
    clear hal hsl2 hc2
    rw [← z64b]
    have HA := Lib.hid (Blk.new w2 120 (arrV .u8 (List.replicate 64 0)))
    have HGA := Lib.hid (World.grownBy_alloc w2 (.cells (arrV .u8 (List.replicate 64 0)) 120) none)
    have HLT := Lib.hid (And.intro HH2.out.1.lt HG2.out.size)
    generalize w2.alloc (.cells (arrV .u8 (List.replicate 64 0)) 120) = wa2 at *
    refine (write_is wa2 g s2 (HH2.out.grown HGA.out (by simp)) HN.out.2.1 ((HR.out.grown HG2.out (by intro e; exact HN.out.2.1 (Option.some.inj e).symm)).grown HGA.out (by simp)) (some ⟨w2.heap.size, 0, none⟩) (56 - q2) 64 (List.replicate (56 - q2) 0) (by simp) (BytesI.blk HA.out (fun j hj => by rw [List.length_replicate] at hj; exact ⟨by rw [List.length_replicate]; omega, by rw [rep0, rep0]⟩)) (fun ad e _ => by obtain rfl := Option.some.inj e; exact fun h => by have := HLT.out.1; simp at h; omega) (by omega) (by have := HP.out; have := HN.out.1; omega)).mono ?_
    rintro e w3 ⟨rfl, hH3, hk3⟩
    have HH3 := Lib.hid hH3
    have HB3 := Lib.hid (HA.out.grown hk3 (by intro e; have := Option.some.inj e; have := HLT.out.1; omega))
    have HG3 := Lib.hid (grown_trans HG2.out (grown_trans (grown_weak HGA.out _) hk3))
    clear hH3 hk3 HA HGA HH2 HG2
    have hs0 : ∀ w b, Sem.run Tryz.prog (Instr.sliceAt 120 (.pointer (some ⟨b, 0, none⟩)) (some (.int .i64 0)) none none) w = .ok (.slice (some ⟨b, 0, none⟩) 64 64) w := fun w b => sl64_from w b 0 (by omega)
    have hs4 : ∀ w b, Sem.run Tryz.prog (Instr.sliceAt 120 (.pointer (some ⟨b, 0, none⟩)) (some (.int .i64 4)) none none) w = .ok (.slice (some ⟨b, 4, none⟩) 60 60) w := fun w b => sl64_from w b 4 (by omega)
    have hs8 : ∀ w b, Sem.run Tryz.prog (Instr.sliceAt 120 (.pointer (some ⟨b, 0, none⟩)) none (some (.int .i64 8)) none) w = .ok (.slice (some ⟨b, 0, none⟩) 8 64) w := fun w b => sl64_to w b 8 (by omega)
    go_wp2_with fail
    refine (put_is w3 w2.heap.size 0 64 64 120 (List.replicate 64 0) _ HB3.out (by simp) (by omega)).mono ?_
    rintro e w4 ⟨rfl, hB4, hk4⟩
    have HB4 := Lib.hid hB4
    have HH4 := Lib.hid (HH3.out.grown hk4 (by intro e; have := Option.some.inj e; have := HLT.out.1; omega))
    have HG4 := Lib.hid (grown_fresh HG3.out hk4 HLT.out.2)
    clear hB4 hk4 HB3 HH3 HG3
    go_wp2_with fail
    refine (put_is w4 w2.heap.size 4 60 60 120 _ _ HB4.out (by rw [over_length]; simp) (by omega)).mono ?_
    rintro e w5 ⟨rfl, hB5, hk5⟩
    have HB5 := Lib.hid hB5
    have HH5 := Lib.hid (HH4.out.grown hk5 (by intro e; have := Option.some.inj e; have := HLT.out.1; omega))
    have HG5 := Lib.hid (grown_fresh HG4.out hk5 HLT.out.2)
    clear hB5 hk5 HB4 HH4 HG4
    go_wp2_with fail
    refine (write_is w5 g _ HH5.out HN.out.2.1 (HR.out.grown HG5.out (by intro e; exact HN.out.2.1 (Option.some.inj e).symm)) (some ⟨w2.heap.size, 0, none⟩) 8 64 (endB (s.n * 8)) rfl (BytesI.blk HB5.out (endB_get _ _ (by simp))) (fun ad e _ => by obtain rfl := Option.some.inj e; exact fun h => by have := HLT.out.1; simp at h; omega) (by omega) (by rw [writeS_n]; have := HP.out; have := HN.out.1; simp; omega)).mono ?_
    rintro e w6 ⟨rfl, hH6, hk6⟩
    go_wp2_with fail
    go_end0
    refine ⟨rfl, ?_, grown_trans HG5.out hk6⟩
    have e1 : finS s = writeS (writeS s2 (List.replicate (56 - q2) 0)) (endB (s.n * 8)) := by rw [finS, HP.out.2.1, HP.out.1]; rfl
    rw [e1]
    exact hH6
end Go.Proofs.YtpdfkgmgmndcfaaGreatDoor
/-
  SHA-256: the sum of all bytes so far.
-/

namespace Go.Proofs.YtpdfkgmgmndcfaaGreatDoor
open Go.RowKit

def sumWK20 (ws : List Int) : Nat → List Int
  | 0 => List.replicate 32 0
  | k + 1 => over (sumWK20 ws k) (4 * k) (wordB (ws.getD k 0))
theorem sumW_length (ws : List Int) (k : Nat) : (sumWK20 ws k).length = 32 := by
  induction k with
  | zero => simp [sumWK20]
  | succ k ih => rw [sumWK20, over_length, ih]
def digS (s : HS) : List Int := sumWK20 (finS s).ws 8
theorem digS_length (s : HS) : (digS s).length = 32 := sumW_length _ _
theorem info32 : (Tryz.prog.info? 79).map (·.size) = some 32 := by kernel_rfl
theorem sl32_from (w : World) (b q : Nat) (h : q < 32) : Sem.run Tryz.prog (Instr.sliceAt 79 (.pointer (some ⟨b, 0, none⟩)) (some (.int .i64 (q : Int))) none none) w = .ok (.slice (some ⟨b, q, none⟩) (32 - q) (32 - q)) w := by
  have := slice_from (P := Tryz.prog) (w := w) (b := b) (o := 0) (t := 79) Tryz.underlying79 (by kernel_rfl) h
  rwa [Nat.zero_add] at this
theorem grown_off {a b c : World} {ge : Nat} (h : a.grownBy b none) (k : b.grownBy c (some ge)) (hge : a.heap.size ≤ ge) : a.grownBy c none := grown_fresh h k hge
theorem heap2 (w : World) (o : Obj) (c : Array Value) (t : TypeId) : ((w.alloc o).alloc (.cells c t)).heap[w.heap.size + 1]? = some (.cells c t (0, 0)) := by
  have := heap_alloc_new (w.alloc o) (.cells c t)
  rwa [World.size_alloc] at this
theorem arr_one (q : IntKind) (l : List Int) : ((arrV q l).all fun x => x.oneCell') = true := by simp [arrV, Value.oneCell']

set_option maxRecDepth 100000 in
set_option maxHeartbeats 1000000 in
theorem sum_isK20 (w : World) (g : Nat) (s : HS) (hH : HashIs w g s) (hR : Rounds w) (hn : s.n ≤ 1073741824) :
    Calls Tryz.prog 50 #[.pointer (some ⟨g, 0, none⟩)] w fun e w' => e = .returned (.agg (arrV .u8 (digS s))) ∧ w.grownBy w' none := by
  obtain ⟨C0, hC0⟩ : ∃ C0, C0 = hash0 := ⟨_, rfl⟩
  have hz : ∀ w, Sem.run Tryz.prog (zeroValue 122) w = .ok (.agg C0) w := fun w => by rw [hC0]; exact zeroHash w
  have HZ := Lib.hid (show C0.size = 73 by rw [hC0]; rfl)
  clear hC0
  obtain ⟨cs, hcs⟩ : ∃ cs, cs = hashV s.ws s.bs (s.n : Int) := ⟨_, rfl⟩
  have hB := hH.1
  rw [← hcs] at hB
  have hsz : cs.size = 73 := by rw [hcs]; exact hash_size _ _ _ hH.2.1 hH.2.2
  have HI := Lib.hid (show (Tryz.prog.info? 122).map (·.size) = some cs.size by rw [hsz]; exact hash_info)
  have HO := Lib.hid (show (cs.all fun x => x.oneCell') = true by rw [hcs]; exact hash_one _ _ _)
  have HS := Lib.hid hsz
  have HB := Lib.hid hB
  have HX := Lib.hid (And.intro hcs (And.intro hH.2.1 (And.intro hH.2.2 (And.intro hn (show 18 < w.heap.size from hR.lt)))))
  have HR := Lib.hid hR
  clear hsz hB hcs hH hn hR
  go_enter Tryz.func50, Tryz.ntmps50
  go_wp2_with (first
    | (refine wpList_load_row rfl 122 _ rfl g rfl 122 cs (0, 0) _ (HB.out.alloc _) Tryz.underlying122 rfl HI.out ?_)
    | (refine wpList_store_row rfl 122 _ _ rfl (w.heap.size + 1) cs rfl rfl 122 _ (heap2 _ _ _ _) HI.out (by rw [HS.out]; exact HZ.out) HO.out ?_))
  rw [← z32b]
  have hr0 : Blk (((w.alloc (.cells (arrV .u8 (List.replicate 32 0)) 79)).alloc (.cells C0 122)).setRow (w.heap.size + 1) cs) w.heap.size 79 (arrV .u8 (List.replicate 32 0)) := Blk.farRow ((Blk.new w _ _).alloc _) (by omega) cs
  have hl0 : Blk (((w.alloc (.cells (arrV .u8 (List.replicate 32 0)) 79)).alloc (.cells C0 122)).setRow (w.heap.size + 1) cs) (w.heap.size + 1) 122 cs := Blk.row (heap2 _ _ _ _) cs
  have hg0 : w.grownBy (((w.alloc (.cells (arrV .u8 (List.replicate 32 0)) 79)).alloc (.cells C0 122)).setRow (w.heap.size + 1) cs) none := grown_row (grown_trans (World.grownBy_alloc w _ none) (World.grownBy_alloc _ _ none)) (.inl (by omega)) cs
  generalize ((w.alloc (.cells (arrV .u8 (List.replicate 32 0)) 79)).alloc (.cells C0 122)).setRow (w.heap.size + 1) cs = w1 at *
  have hH1 : HashIs w1 (w.heap.size + 1) s := ⟨by rw [← HX.out.1]; exact hl0, HX.out.2.1, HX.out.2.2.1⟩
  have HR0 := Lib.hid hr0
  have HG0 := Lib.hid hg0
  refine (finish_is w1 (w.heap.size + 1) s hH1 (by have := HR.out.lt; omega) (HR.out.grown hg0 (by simp)) HX.out.2.2.2.1).mono ?_
  rintro e w2 ⟨rfl, hH2, hk2⟩
  have HR2 := Lib.hid (hr0.grown hk2 (by intro e; have := Option.some.inj e; omega))
  have HG2 := Lib.hid (grown_off hg0 hk2 (by omega))
  obtain ⟨ws, hws⟩ : ∃ ws, ws = (finS s).ws := ⟨_, rfl⟩
  obtain ⟨hb2, h8, h64⟩ := hH2
  rw [← hws] at hb2 h8
  obtain ⟨a0, a1, a2, a3, a4, a5, a6, a7, he⟩ : ∃ a0 a1 a2 a3 a4 a5 a6 a7, ws = [a0, a1, a2, a3, a4, a5, a6, a7] := by
    match ws, h8 with
    | [a0, a1, a2, a3, a4, a5, a6, a7], _ => exact ⟨a0, a1, a2, a3, a4, a5, a6, a7, rfl⟩
  have ce : ∀ i, i < 8 → ∀ o, (w2.alloc o).cell? ⟨w.heap.size + 1, i, none⟩ = some (.int .u32 (ws.getD i 0)) := fun i hi o => by
    rw [(hb2.alloc o).cell]; exact hashV_word (by omega)
  have c0 := ce 0 (by omega)
  have c1 := ce 1 (by omega)
  have c2 := ce 2 (by omega)
  have c3 := ce 3 (by omega)
  have c4 := ce 4 (by omega)
  have c5 := ce 5 (by omega)
  have c6 := ce 6 (by omega)
  have c7 := ce 7 (by omega)
  rw [he] at c0 c1 c2 c3 c4 c5 c6 c7
  simp only [List.getD_cons_zero, List.getD_cons_succ] at c0 c1 c2 c3 c4 c5 c6 c7
  have HW := Lib.hid (And.intro hws (And.intro h8 he))
  clear hr0 hl0 hg0 hH1 hk2 hb2 h8 h64 hws he ce HR0 HG0 HB HI HO HS HZ hz
  go_wp2_with fail
  obtain ⟨c8, hc8⟩ : ∃ c8 : Array Value, c8 = #[.int .u32 a0, .int .u32 a1, .int .u32 a2, .int .u32 a3, .int .u32 a4, .int .u32 a5, .int .u32 a6, .int .u32 a7] := ⟨_, rfl⟩
  rw [← hc8]
  have H8 := Lib.hid (show c8 = arrV .u32 ws by rw [HW.out.2.2]; exact hc8)
  clear hc8 c0 c1 c2 c3 c4 c5 c6 c7
  rw [← z32b]
  have HA := Lib.hid (Blk.new w2 79 (arrV .u8 (List.replicate 32 0)))
  have HRA := Lib.hid (HR2.out.alloc (.cells (arrV .u8 (List.replicate 32 0)) 79))
  have HGA := Lib.hid (grown_trans HG2.out (World.grownBy_alloc w2 (.cells (arrV .u8 (List.replicate 32 0)) 79) none))
  have HLT := Lib.hid (And.intro HR2.out.lt HG2.out.size)
  generalize w2.alloc (.cells (arrV .u8 (List.replicate 32 0)) 79) = w3 at *
  clear HR2 HG2
  go_loopw [14] (fun i wr => ∃ k : Nat, k ≤ 8 ∧ i = .int .i64 (k : Int) ∧ Blk wr w2.heap.size 79 (arrV .u8 (sumWK20 ws k)) ∧ Blk wr w.heap.size 79 (arrV .u8 (List.replicate 32 0)) ∧ w.grownBy wr none) (fun i _ => 8 - (intOf i).toNat)
  case atStart => exact ⟨0, by omega, rfl, HA.out, HRA.out, HGA.out⟩
  case round =>
    obtain ⟨k, hk, hi, hB, hB0, hK⟩ := hrel
    obtain ⟨I, hI⟩ : ∃ I : Int, I = (k : Int) := ⟨_, rfl⟩
    rw [← hI] at hi
    subst hi
    by_cases hlt : k < 8
    · have d1 : decide (I < 8) = true := by simp; omega
      have hkI : I.toNat = k := by omega
      have hx : 0 ≤ I ∧ I < 8 := by omega
      obtain ⟨y, hy⟩ : ∃ y, y = ws.getD k 0 := ⟨_, rfl⟩
      have kk : c8[I.toNat]? = some (.int .u32 y) := by rw [H8.out, hkI, hy]; exact arr_get (by rw [HW.out.2.1]; exact hlt)
      have kx := index8 wr hx kk
      have hsl : Sem.run Tryz.prog (Instr.sliceAt 79 (.pointer (some ⟨w2.heap.size, 0, none⟩)) (some (.int .i64 (4 * I))) none none) wr = .ok (.slice (some ⟨w2.heap.size, 4 * k, none⟩) (32 - 4 * k) (32 - 4 * k)) wr := by
        have := sl32_from wr w2.heap.size (4 * k) (by omega)
        rw [show ((4 * k : Nat) : Int) = 4 * I by omega] at this
        exact this
      have s1 : wrap64 (4 * I) = 4 * I := w64 _ ⟨by omega, by omega⟩
      have s2 : wrap64 (I + 1) = I + 1 := w64 _ ⟨by omega, by omega⟩
      have HI := Lib.hid (And.intro hI (And.intro hlt (And.intro hkI hy)))
      have HB := Lib.hid hB
      have HB0 := Lib.hid hB0
      have HK := Lib.hid hK
      clear hI hlt hkI hy hB hB0 hK kk hx hk
      go_wp2_with fail
      refine (put_is wr w2.heap.size (4 * k) (32 - 4 * k) (32 - 4 * k) 79 (sumWK20 ws k) y HB.out (by rw [sumW_length]; have := HI.out; omega) (by have := HI.out; omega)).mono ?_
      rintro e w4 ⟨rfl, hB4, hk4⟩
      have HB4 := Lib.hid hB4
      have HB5 := Lib.hid (HB0.out.grown hk4 (by intro e; have := Option.some.inj e; have := HLT.out.1; omega))
      have HK4 := Lib.hid (grown_off HK.out hk4 HLT.out.2)
      clear hB4 hk4
      go_wp2_with fail
      go_roundw
      case rel =>
        obtain ⟨hI, hlt, hkI, hy⟩ := HI.out
        exact ⟨k + 1, by omega, by rw [hI, w64 _ ⟨by omega, by omega⟩]; rfl, by rw [sumWK20, ← hy]; exact HB4.out, HB5.out, HK4.out⟩
      case measure => obtain ⟨hI, hlt, hkI, _⟩ := HI.out; simp only [intOf]; rw [w64 _ ⟨by omega, by omega⟩]; omega
    · have d1 : decide (I < 8) = false := by simp; omega
      obtain rfl : k = 8 := by omega
      obtain ⟨ds, hds⟩ : ∃ ds, ds = arrV .u8 (sumWK20 ws 8) := ⟨_, rfl⟩
      rw [← hds] at hB
      have hsz : ds.size = 32 := by rw [hds, arr_size, sumW_length]
      have HI3 := Lib.hid (show (Tryz.prog.info? 79).map (·.size) = some ds.size by rw [hsz]; exact info32)
      have HS3 := Lib.hid (And.intro hsz (show (ds.all fun x => x.oneCell') = true by rw [hds]; exact arr_one _ _))
      have HD := Lib.hid (show ds = arrV .u8 (digS s) by rw [hds, HW.out.1]; rfl)
      have HB := Lib.hid hB
      have HB0 := Lib.hid hB0
      have HK := Lib.hid hK
      clear hsz hds hB hB0 hK hlt hI hk
      go_wp2_with (first
        | (refine wpList_load_row rfl 79 _ rfl w2.heap.size rfl 79 ds (0, 0) _ HB.out Tryz.underlying79 rfl HI3.out ?_)
        | (refine wpList_store_row rfl 79 _ _ rfl w.heap.size ds rfl rfl 79 _ HB0.out HI3.out (by rw [HS3.out.1]; simp [arrV]) HS3.out.2 ?_))
      refine bodyPost_ret (results_cell rfl _ _ _ ⟨w.heap.size, 0, none⟩ (.agg ds) rfl (run_loadVar_row _ w.heap.size 79 79 ds (0, 0) _ (HB0.out.row ds) Tryz.underlying79 rfl HI3.out)) rfl ?_
      exact ⟨by rw [HD.out], grown_row HK.out (.inl (Nat.le_refl _)) ds⟩
end Go.Proofs.YtpdfkgmgmndcfaaGreatDoor
