/-
  Several texts in one: Sh5, Sh6.
-/
import Derived.Test.YtebnebajedlhlaaDoorM9ic
import Derived.Laws.MakeOwn
/-
  SHA-256: the start, a word's bytes, the end.
-/
namespace Go.Proofs.YtebnebajedlhlaaDoor
open Go.RowKit

def wordB (x : Int) : List Int := [x / 16777216 % 256, x / 65536 % 256, x / 256 % 256, x % 256]
def startS : HS := ⟨[1779033703, 3144134277, 1013904242, 2773480762, 1359893119, 2600822924, 528734635, 1541459225], List.replicate 64 0, 0⟩

theorem arr_set4 {l : List Int} {o : Nat} (a b c d : Int) : ((((arrV .u8 l).setIfInBounds o (.int .u8 a)).setIfInBounds (o + 1) (.int .u8 b)).setIfInBounds (o + 2) (.int .u8 c)).setIfInBounds (o + 3) (.int .u8 d) = arrV .u8 (over l o [a, b, c, d]) := by
  simp only [arr_set, over]

set_option maxHeartbeats 1000000 in
theorem put_is (w : World) (g o n c : Nat) (t : TypeId) (l : List Int) (x : Int) (hB : Blk w g t (arrV .u8 l)) (ho : o + 4 ≤ l.length) (hn : 4 ≤ n) :
    Calls Tryd.prog 31 #[.slice (some ⟨g, o, none⟩) n c, .int .u32 x] w fun e w' => e = .returned (.tuple #[]) ∧ Blk w' g t (arrV .u8 (over l o (wordB x))) ∧ w.grownBy w' (some g) := by
  have hb1 : ∀ i, i < 4 → ∃ v, w.cell? ⟨g, o + i, none⟩ = some v := fun i hi => by
    rw [hB.cell, arr_get (by omega)]; exact ⟨_, rfl⟩
  obtain ⟨v0, c0⟩ := hb1 0 (by omega)
  obtain ⟨v1, c1⟩ := hb1 1 (by omega)
  obtain ⟨v2, c2⟩ := hb1 2 (by omega)
  obtain ⟨v3, c3⟩ := hb1 3 (by omega)
  have f0 := hB.frozen o
  have f1 := hB.frozen (o + 1)
  have f2 := hB.frozen (o + 2)
  have f3 := hB.frozen (o + 3)
  rw [Nat.add_zero] at c0
  have HB := Lib.hid hB
  have n0 : (0 : Int) < (n : Int) := by omega
  have n1 : (1 : Int) < (n : Int) := by omega
  have n2 : (2 : Int) < (n : Int) := by omega
  have n3 : (3 : Int) < (n : Int) := by omega
  clear hB hb1
  go_enter Tryd.func31, Tryd.ntmps31
  go_wp2_with fail
  go_end0
  refine ⟨rfl, ?_, ?_⟩
  · have h := (((HB.out.set o (.int .u8 (x / 16777216 % 256))).set (o + 1) (.int .u8 (x / 65536 % 256))).set (o + 2) (.int .u8 (x / 256 % 256))).set (o + 3) (.int .u8 (x % 256))
    rw [arr_set4] at h
    exact h
  · have e1 := grown_far (World.grownBy.refl w (some g)) (p := ⟨g, o, none⟩) (.inr rfl) (.int .u8 (x / 16777216 % 256))
    have e2 := grown_far e1 (p := ⟨g, o + 1, none⟩) (.inr rfl) (.int .u8 (x / 65536 % 256))
    have e3 := grown_far e2 (p := ⟨g, o + 2, none⟩) (.inr rfl) (.int .u8 (x / 256 % 256))
    exact grown_far e3 (p := ⟨g, o + 3, none⟩) (.inr rfl) (.int .u8 (x % 256))

theorem zero_run {P : Program} {t : TypeId} {v : Value} (w : World) (h : (P.info? t).bind (·.zero) = some v) : Sem.run P (zeroValue t) w = .ok v w := by
  cases hq : P.info? t with
  | none => simp [hq] at h
  | some i =>
    have h1 : i.zero = some v := by simpa [hq] using h
    simp [zeroValue, typeInfo, hq, h1]
def hash0 : Array Value := hashV (List.replicate 8 0) (List.replicate 64 0) 0
theorem zeroHash (w : World) : Sem.run Tryd.prog (zeroValue 99) w = .ok (.agg hash0) w :=
  zero_run w (by kernel_rfl)
theorem hash_size (ws bs : List Int) (n : Int) (h8 : ws.length = 8) (h64 : bs.length = 64) : (hashV ws bs n).size = 73 := by simp [hashV, h8, h64]
theorem hash_one (ws bs : List Int) (n : Int) : ((hashV ws bs n).all fun x => x.oneCell') = true := by simp [hashV, Value.oneCell']
theorem hash_info : (Tryd.prog.info? 99).map (·.size) = some 73 := by kernel_rfl
theorem startS_ok : startS.ws.length = 8 ∧ startS.bs.length = 64 := ⟨rfl, rfl⟩

set_option maxRecDepth 100000 in
set_option maxHeartbeats 1000000 in
theorem start_is (w : World) : Calls Tryd.prog 29 #[] w fun e w' => e = .returned (.agg (hashV startS.ws startS.bs 0)) ∧ w.grownBy w' none := by
  obtain ⟨C0, hC0⟩ : ∃ C0, C0 = hash0 := ⟨_, rfl⟩
  have hz : ∀ w, Sem.run Tryd.prog (zeroValue 99) w = .ok (.agg C0) w := fun w => by rw [hC0]; exact zeroHash w
  have hsz : C0.size = 73 := by rw [hC0]; rfl
  have HC := Lib.hid hC0
  clear hC0
  obtain ⟨C1, hC1⟩ : ∃ C1, C1 = (((((((C0.setIfInBounds 0 (.int .u32 1779033703)).setIfInBounds 1 (.int .u32 3144134277)).setIfInBounds 2 (.int .u32 1013904242)).setIfInBounds 3 (.int .u32 2773480762)).setIfInBounds 4 (.int .u32 1359893119)).setIfInBounds 5 (.int .u32 2600822924)).setIfInBounds 6 (.int .u32 528734635)).setIfInBounds 7 (.int .u32 1541459225) := ⟨_, rfl⟩
  have H1 : C1 = hashV startS.ws startS.bs 0 := by rw [hC1, HC.out]; kernel_rfl
  have HS1 := Lib.hid (show C1.size = 73 by rw [H1]; exact hash_size _ _ _ rfl rfl)
  have HO1 := Lib.hid (show (C1.all fun x => x.oneCell') = true by rw [H1]; exact hash_one _ _ _)
  have HI1 := Lib.hid (show (Tryd.prog.info? 99).map (·.size) = some C1.size by rw [HS1.out]; exact hash_info)
  have H1' := Lib.hid H1
  clear H1
  have HC1 := Lib.hid hC1
  clear hC1
  go_enter Tryd.func29, Tryd.ntmps29
  go_wp2_with (rw [← HC1.out]; refine wpList_store_row rfl 99 _ _ rfl w.heap.size C1 rfl rfl 99 _ (heap_alloc_new w _) HI1.out (by rw [HS1.out]; exact hsz) HO1.out ?_)
  have hB1 := Blk.row (Blk.new w 99 C0) C1
  refine bodyPost_ret (results_cell rfl _ _ _ ⟨w.heap.size, 0, none⟩ (.agg C1) rfl (run_loadVar_row _ w.heap.size 99 99 C1 (0, 0) _ hB1 Tryd.underlying99 rfl HI1.out)) rfl ?_
  exact ⟨by rw [H1'.out], grown_row (World.grownBy_alloc w _ none) (.inl (Nat.le_refl _)) C1⟩
end Go.Proofs.YtebnebajedlhlaaDoor
/-
  SHA-256: the end is written.
-/

namespace Go.Proofs.YtebnebajedlhlaaDoor
open Go.RowKit

def padS (s : HS) : HS := if 56 < (pushS s 128).n % 64 then writeS (pushS s 128) (List.replicate (64 - (pushS s 128).n % 64) 0) else pushS s 128
def finS (s : HS) : HS := writeS (writeS (padS s) (List.replicate (56 - (padS s).n % 64) 0)) (wordB (((s.n * 8 : Nat) : Int) / 4294967296 % 4294967296) ++ wordB (((s.n * 8 : Nat) : Int) % 4294967296))
theorem padS_n (s : HS) : (padS s).n % 64 ≤ 56 ∧ s.n ≤ (padS s).n ∧ (padS s).n ≤ s.n + 64 := by
  have := pushS_n s 128
  unfold padS
  split
  · rw [writeS_n, List.length_replicate]; omega
  · omega

theorem rep0 (n j : Nat) : (List.replicate n (0 : Int)).getD j 0 = 0 := by
  simp only [List.getD, List.getElem?_replicate]
  split <;> rfl
theorem BytesI.blk {w : World} {g o : Nat} {t : TypeId} {l x : List Int} (h : Blk w g t (arrV .u8 l)) (hx : ∀ j, j < x.length → o + j < l.length ∧ x.getD j 0 = l.getD (o + j) 0) : BytesI w (some ⟨g, o, none⟩) x := fun _ => ⟨_, rfl, fun j hj => by
  obtain ⟨h1, h2⟩ := hx j hj
  rw [show (⟨g, o, none⟩ : Addr).add j = ⟨g, o + j, none⟩ by simp [Addr.add], h.cell, arr_get h1, h2]⟩
theorem HashIs.count {w : World} {g : Nat} {s : HS} (h : HashIs w g s) : w.cell? ⟨g, 72, none⟩ = some (.int .i64 (s.n : Int)) := by
  rw [h.1.cell, show 72 = s.ws.length + s.bs.length by rw [h.2.1, h.2.2]]; exact hashV_count
theorem HashIs.grown {w w' : World} {g : Nat} {s : HS} {row : Option Nat} (h : HashIs w g s) (hg : w.grownBy w' row) (hr : some g ≠ row) : HashIs w' g s := ⟨h.1.grown hg hr, h.2⟩
theorem made_zero (n : Nat) : madeCells (Value.int .u8 0).cells (n * 1) = arrV .u8 (List.replicate n 0) := by
  apply Array.ext
  · simp [size_madeCells, arrV]
  · intro i h1 h2
    simp [madeCells, arrV, Value.cells, Nat.mod_one]
theorem make_bytes (w : World) (n : Nat) (h : n ≤ 64) : Sem.run Tryd.prog (Instr.makeSlice 33 (.int .i64 (n : Int)) (.int .i64 (n : Int))) w = .ok (.slice (some ⟨w.heap.size, 0, none⟩) n n) (w.alloc (.cells (arrV .u8 (List.replicate n 0)) 5)) := by
  obtain ⟨i, hi, h2, h3, h4⟩ := info_parts (show (Tryd.prog.info? 5).map (fun i => (i.zero, i.size, i.bytes)) = some (some (.int .u8 0), 1, 1) by kernel_rfl)
  have hr := run_make (P := Tryd.prog) w 33 5 i (.int .u8 0) Tryd.underlying33 hi h2 .i64 .i64 (n : Int) (n : Int) (by omega) (Int.le_refl _) (by rw [h4]; omega) (by omega)
  rw [hr, h3]
  simp only [Int.toNat_natCast, made_zero]

theorem sl64_from (w : World) (b q : Nat) (h : q < 64) : Sem.run Tryd.prog (Instr.sliceAt 97 (.pointer (some ⟨b, 0, none⟩)) (some (.int .i64 (q : Int))) none none) w = .ok (.slice (some ⟨b, q, none⟩) (64 - q) (64 - q)) w := by
  have := slice_from (P := Tryd.prog) (w := w) (b := b) (o := 0) (t := 97) Tryd.underlying97 (by kernel_rfl) h
  rwa [Nat.zero_add] at this
theorem sl64_to (w : World) (b q : Nat) (h : q ≤ 64) : Sem.run Tryd.prog (Instr.sliceAt 97 (.pointer (some ⟨b, 0, none⟩)) none (some (.int .i64 (q : Int))) none) w = .ok (.slice (some ⟨b, 0, none⟩) q 64) w :=
  slice_to (P := Tryd.prog) (w := w) (b := b) (o := 0) (t := 97) Tryd.underlying97 (by kernel_rfl) h
/-- The eight bytes at the end. -/
def endB (N : Nat) : List Int := wordB ((N : Int) / 4294967296 % 4294967296) ++ wordB ((N : Int) % 4294967296)
theorem endB_get (l : List Int) (N : Nat) (hl : l.length = 64) : ∀ j, j < (endB N).length → 0 + j < (over (over l 0 (wordB ((N : Int) / 4294967296 % 4294967296))) 4 (wordB ((N : Int) % 4294967296))).length ∧ (endB N).getD j 0 = (over (over l 0 (wordB ((N : Int) / 4294967296 % 4294967296))) 4 (wordB ((N : Int) % 4294967296))).getD (0 + j) 0 := by
  intro j hj
  have h8 : (endB N).length = 8 := rfl
  rw [h8] at hj
  refine ⟨by rw [over_length, over_length, hl]; omega, ?_⟩
  obtain ⟨a0, a1, a2, a3, a4, a5, a6, a7, r, rfl⟩ : ∃ a0 a1 a2 a3 a4 a5 a6 a7 r, l = a0 :: a1 :: a2 :: a3 :: a4 :: a5 :: a6 :: a7 :: r := by
    match l, hl with
    | a0 :: a1 :: a2 :: a3 :: a4 :: a5 :: a6 :: a7 :: r, _ => exact ⟨a0, a1, a2, a3, a4, a5, a6, a7, r, rfl⟩
  have : j = 0 ∨ j = 1 ∨ j = 2 ∨ j = 3 ∨ j = 4 ∨ j = 5 ∨ j = 6 ∨ j = 7 := by omega
  rcases this with rfl | rfl | rfl | rfl | rfl | rfl | rfl | rfl <;> rfl

set_option maxRecDepth 100000 in
set_option maxHeartbeats 1000000 in
theorem finish_is (w : World) (g : Nat) (s : HS) (hH : HashIs w g s) (hg : g ≠ 2) (hR : Rounds w) (hn : s.n ≤ 1073741824) :
    Calls Tryd.prog 50 #[.pointer (some ⟨g, 0, none⟩)] w fun e w' => e = .returned (.tuple #[]) ∧ HashIs w' g (finS s) ∧ w.grownBy w' (some g) := by
  have c1 := hH.count
  have hlt := hH.1.lt
  have HH := Lib.hid hH
  have HR := Lib.hid hR
  have HN := Lib.hid (And.intro hn (And.intro hg hlt))
  have e1 : IntKind.u64.wrap (s.n : Int) = (s.n : Int) := by rw [IntKind.wrap_u64]; omega
  have e2 : IntKind.u64.wrap ((s.n : Int) * 8) = (s.n : Int) * 8 := by rw [IntKind.wrap_u64]; omega
  have HE := Lib.hid (And.intro e1 e2)
  clear hH hR hn hg hlt
  go_enter Tryd.func50, Tryd.ntmps50
  go_wp2_with fail
  have hA0 := Blk.new w 5 (arrV .u8 [128])
  have HA := Lib.hid hA0
  have hgA := World.grownBy_alloc w (.cells (arrV .u8 [128]) 5) none
  have HGA := Lib.hid hgA
  clear hA0 hgA e1 e2
  generalize hwa : w.alloc (.cells #[.int .u8 128] 5) = wa
  rw [show w.alloc (.cells (arrV .u8 [128]) 5) = wa from hwa] at HA HGA
  clear hwa
  refine (write_is wa g s (HH.out.grown HGA.out (by simp)) HN.out.2.1 (HR.out.grown HGA.out (by simp)) (some ⟨w.heap.size, 0, none⟩) 1 1 [128] rfl (BytesI.blk HA.out (fun j hj => by simp at hj; subst hj; simp)) (fun ad e _ => by obtain rfl := Option.some.inj e; exact fun h => by have := HN.out.2.2; simp at h; omega) (Nat.le_refl _) (by have := HN.out.1; omega)).mono ?_
  rintro e w1 ⟨rfl, hH1, hk1⟩
  obtain ⟨s1, hs1⟩ : ∃ s1, s1 = pushS s 128 := ⟨_, rfl⟩
  have hn1 : s1.n = s.n + 1 := by rw [hs1, pushS_n]
  have hH1 : HashIs w1 g s1 := by rw [hs1]; exact hH1
  have hgr : w.grownBy w1 (some g) := grown_trans (grown_weak HGA.out _) hk1
  have hpad : padS s = if 56 < s1.n % 64 then writeS s1 (List.replicate (64 - s1.n % 64) 0) else s1 := by rw [hs1]; rfl
  have c1 := hH1.count
  have HS := Lib.hid (And.intro hs1 (And.intro hn1 hpad))
  have HH1 := Lib.hid hH1
  have HG1 := Lib.hid hgr
  have hnn : s1.n ≤ 1073741825 := by have := HN.out.1; omega
  have hmodi : ((s1.n : Int)) % 64 = ((s1.n % 64 : Nat) : Int) := by omega
  obtain ⟨q, hq⟩ : ∃ q, q = s1.n % 64 := ⟨_, rfl⟩
  rw [← hq] at hmodi hpad
  have hq64 : q < 64 := by omega
  have hmk : ∀ w, Sem.run Tryd.prog (Instr.makeSlice 33 (.int .i64 (64 - (s1.n : Int) % 64)) (.int .i64 (64 - (s1.n : Int) % 64))) w = .ok (.slice (some ⟨w.heap.size, 0, none⟩) (64 - q) (64 - q)) (w.alloc (.cells (arrV .u8 (List.replicate (64 - q) 0)) 5)) := fun w => by
    have := make_bytes w (64 - q) (by omega)
    rw [show ((64 - q : Nat) : Int) = 64 - (s1.n : Int) % 64 by rw [hmodi]; omega] at this
    exact this
  have hal : ∀ o, (w1.alloc o).cell? ⟨g, 72, none⟩ = some (.int .i64 (s1.n : Int)) := fun o => by
    rw [HashIs.count (HH1.out.grown (World.grownBy_alloc w1 o none) (by simp))]
  have HQ := Lib.hid (And.intro hq (And.intro hq64 (And.intro hmodi (And.intro hnn hpad))))
  clear hH1 hk1 hgr hs1 hn1 hnn hq hpad hmodi HA HGA HH
  by_cases hov : 56 < q
  · have hd : decide (56 < (s1.n : Int) % 64) = true := by rw [HQ.out.2.2.1]; simp; omega
    clear hq64 hal
    go_wp2_with fail
    have hgA := World.grownBy_alloc w1 (.cells (arrV .u8 (List.replicate (64 - q) 0)) 5) none
    have hA := Blk.new w1 5 (arrV .u8 (List.replicate (64 - q) 0))
    have hlt1 : g < w1.heap.size := HH1.out.1.lt
    generalize w1.alloc (.cells (arrV .u8 (List.replicate (64 - q) 0)) 5) = wa1 at *
    refine (write_is wa1 g s1 (HH1.out.grown hgA (by simp)) HN.out.2.1 ((HR.out.grown HG1.out (by intro e; exact HN.out.2.1 (Option.some.inj e).symm)).grown hgA (by simp)) (some ⟨w1.heap.size, 0, none⟩) (64 - q) (64 - q) (List.replicate (64 - q) 0) (by simp) (BytesI.blk hA (fun j hj => by simp at hj; simp [hj])) (fun ad e _ => by obtain rfl := Option.some.inj e; exact fun h => by simp at h; omega) (Nat.le_refl _) (by have := HQ.out; omega)).mono ?_
    rintro e w2 ⟨rfl, hH2, hk2⟩
    have hG2 : w.grownBy w2 (some g) := grown_trans HG1.out (grown_trans (grown_weak hgA _) hk2)
    have hp2 : padS s = writeS s1 (List.replicate (64 - q) 0) := by rw [HQ.out.2.2.2.2, if_pos hov]
    obtain ⟨s2, hs2⟩ : ∃ s2, s2 = padS s := ⟨_, rfl⟩
    rw [← hp2, ← hs2] at hH2
    clear hgA hA hlt1 hk2 hp2 hov hd hmk
    obtain ⟨q2, hq2⟩ : ∃ q2, q2 = s2.n % 64 := ⟨_, rfl⟩
    have hpn := padS_n s
    rw [← hs2, ← hq2] at hpn
    have hsl2 : ∀ w b, Sem.run Tryd.prog (Instr.sliceAt 97 (.pointer (some ⟨b, 0, none⟩)) none (some (.int .i64 (56 - (s2.n : Int) % 64))) none) w = .ok (.slice (some ⟨b, 0, none⟩) (56 - q2) 64) w := fun w b => by
      have := sl64_to w b (56 - q2) (by omega)
      rw [show ((56 - q2 : Nat) : Int) = 56 - (s2.n : Int) % 64 by omega] at this
      exact this
    have HP := Lib.hid (And.intro hs2 (And.intro hq2 hpn))
    have HH2 := Lib.hid hH2
    have HG2 := Lib.hid hG2
    have hal : ∀ o, (w2.alloc o).cell? ⟨g, 72, none⟩ = some (.int .i64 (s2.n : Int)) := fun o => by
      rw [HashIs.count (HH2.out.grown (World.grownBy_alloc w2 o none) (by simp))]
    have hc2 := hH2.count
    clear hs2 hq2 hpn hH2 hG2
    go_wp2_with fail
    clear hal hsl2 hc2
    rw [← z64b]
    have HA := Lib.hid (Blk.new w2 97 (arrV .u8 (List.replicate 64 0)))
    have HGA := Lib.hid (World.grownBy_alloc w2 (.cells (arrV .u8 (List.replicate 64 0)) 97) none)
    have HLT := Lib.hid (And.intro HH2.out.1.lt HG2.out.size)
    generalize w2.alloc (.cells (arrV .u8 (List.replicate 64 0)) 97) = wa2 at *
    refine (write_is wa2 g s2 (HH2.out.grown HGA.out (by simp)) HN.out.2.1 ((HR.out.grown HG2.out (by intro e; exact HN.out.2.1 (Option.some.inj e).symm)).grown HGA.out (by simp)) (some ⟨w2.heap.size, 0, none⟩) (56 - q2) 64 (List.replicate (56 - q2) 0) (by simp) (BytesI.blk HA.out (fun j hj => by rw [List.length_replicate] at hj; exact ⟨by rw [List.length_replicate]; omega, by rw [rep0, rep0]⟩)) (fun ad e _ => by obtain rfl := Option.some.inj e; exact fun h => by have := HLT.out.1; simp at h; omega) (by omega) (by have := HP.out; have := HN.out.1; omega)).mono ?_
    rintro e w3 ⟨rfl, hH3, hk3⟩
    have HH3 := Lib.hid hH3
    have HB3 := Lib.hid (HA.out.grown hk3 (by intro e; have := Option.some.inj e; have := HLT.out.1; omega))
    have HG3 := Lib.hid (grown_trans HG2.out (grown_trans (grown_weak HGA.out _) hk3))
    clear hH3 hk3 HA HGA HH2 HG2
    have hs0 : ∀ w b, Sem.run Tryd.prog (Instr.sliceAt 97 (.pointer (some ⟨b, 0, none⟩)) (some (.int .i64 0)) none none) w = .ok (.slice (some ⟨b, 0, none⟩) 64 64) w := fun w b => sl64_from w b 0 (by omega)
    have hs4 : ∀ w b, Sem.run Tryd.prog (Instr.sliceAt 97 (.pointer (some ⟨b, 0, none⟩)) (some (.int .i64 4)) none none) w = .ok (.slice (some ⟨b, 4, none⟩) 60 60) w := fun w b => sl64_from w b 4 (by omega)
    have hs8 : ∀ w b, Sem.run Tryd.prog (Instr.sliceAt 97 (.pointer (some ⟨b, 0, none⟩)) none (some (.int .i64 8)) none) w = .ok (.slice (some ⟨b, 0, none⟩) 8 64) w := fun w b => sl64_to w b 8 (by omega)
    go_wp2_with fail
    refine (put_is w3 w2.heap.size 0 64 64 97 (List.replicate 64 0) _ HB3.out (by simp) (by omega)).mono ?_
    rintro e w4 ⟨rfl, hB4, hk4⟩
    have HB4 := Lib.hid hB4
    have HH4 := Lib.hid (HH3.out.grown hk4 (by intro e; have := Option.some.inj e; have := HLT.out.1; omega))
    have HG4 := Lib.hid (grown_fresh HG3.out hk4 HLT.out.2)
    clear hB4 hk4 HB3 HH3 HG3
    go_wp2_with fail
    refine (put_is w4 w2.heap.size 4 60 60 97 _ _ HB4.out (by rw [over_length]; simp) (by omega)).mono ?_
    rintro e w5 ⟨rfl, hB5, hk5⟩
    have HB5 := Lib.hid hB5
    have HH5 := Lib.hid (HH4.out.grown hk5 (by intro e; have := Option.some.inj e; have := HLT.out.1; omega))
    have HG5 := Lib.hid (grown_fresh HG4.out hk5 HLT.out.2)
    clear hB5 hk5 HB4 HH4 HG4
    go_wp2_with fail
    refine (write_is w5 g _ HH5.out HN.out.2.1 (HR.out.grown HG5.out (by intro e; exact HN.out.2.1 (Option.some.inj e).symm)) (some ⟨w2.heap.size, 0, none⟩) 8 64 (endB (s.n * 8)) rfl (BytesI.blk HB5.out (endB_get _ _ (by simp))) (fun ad e _ => by obtain rfl := Option.some.inj e; exact fun h => by have := HLT.out.1; simp at h; omega) (by omega) (by rw [writeS_n]; have := HP.out; have := HN.out.1; simp; omega)).mono ?_
    rintro e w6 ⟨rfl, hH6, hk6⟩
    go_wp2_with fail
    go_end0
    refine ⟨rfl, ?_, grown_trans HG5.out hk6⟩
    have e1 : finS s = writeS (writeS s2 (List.replicate (56 - q2) 0)) (endB (s.n * 8)) := by rw [finS, HP.out.2.1, HP.out.1]; rfl
    rw [e1]
    exact hH6
  · have hd : decide (56 < (s1.n : Int) % 64) = false := by rw [HQ.out.2.2.1]; simp; omega
    have hs2 : s1 = padS s := by rw [HQ.out.2.2.2.2, if_neg hov]
    have hG2 := HG1.out
    have hH2 := HH1.out
    clear hq64 hov hmk hal c1 HS HQ HG1 HH1 hH1
    generalize s1 = s2 at *
    generalize w1 = w2 at *
    obtain ⟨q2, hq2⟩ : ∃ q2, q2 = s2.n % 64 := ⟨_, rfl⟩
    have hpn := padS_n s
    rw [← hs2, ← hq2] at hpn
    have hsl2 : ∀ w b, Sem.run Tryd.prog (Instr.sliceAt 97 (.pointer (some ⟨b, 0, none⟩)) none (some (.int .i64 (56 - (s2.n : Int) % 64))) none) w = .ok (.slice (some ⟨b, 0, none⟩) (56 - q2) 64) w := fun w b => by
      have := sl64_to w b (56 - q2) (by omega)
      rw [show ((56 - q2 : Nat) : Int) = 56 - (s2.n : Int) % 64 by omega] at this
      exact this
    have HP := Lib.hid (And.intro hs2 (And.intro hq2 hpn))
    have HH2 := Lib.hid hH2
    have HG2 := Lib.hid hG2
    have hal : ∀ o, (w2.alloc o).cell? ⟨g, 72, none⟩ = some (.int .i64 (s2.n : Int)) := fun o => by
      rw [HashIs.count (HH2.out.grown (World.grownBy_alloc w2 o none) (by simp))]
    have hc2 := hH2.count
    clear hs2 hq2 hpn hH2 hG2
    go_wp2_with fail
    clear hal hsl2 hc2
    rw [← z64b]
    have HA := Lib.hid (Blk.new w2 97 (arrV .u8 (List.replicate 64 0)))
    have HGA := Lib.hid (World.grownBy_alloc w2 (.cells (arrV .u8 (List.replicate 64 0)) 97) none)
    have HLT := Lib.hid (And.intro HH2.out.1.lt HG2.out.size)
    generalize w2.alloc (.cells (arrV .u8 (List.replicate 64 0)) 97) = wa2 at *
    refine (write_is wa2 g s2 (HH2.out.grown HGA.out (by simp)) HN.out.2.1 ((HR.out.grown HG2.out (by intro e; exact HN.out.2.1 (Option.some.inj e).symm)).grown HGA.out (by simp)) (some ⟨w2.heap.size, 0, none⟩) (56 - q2) 64 (List.replicate (56 - q2) 0) (by simp) (BytesI.blk HA.out (fun j hj => by rw [List.length_replicate] at hj; exact ⟨by rw [List.length_replicate]; omega, by rw [rep0, rep0]⟩)) (fun ad e _ => by obtain rfl := Option.some.inj e; exact fun h => by have := HLT.out.1; simp at h; omega) (by omega) (by have := HP.out; have := HN.out.1; omega)).mono ?_
    rintro e w3 ⟨rfl, hH3, hk3⟩
    have HH3 := Lib.hid hH3
    have HB3 := Lib.hid (HA.out.grown hk3 (by intro e; have := Option.some.inj e; have := HLT.out.1; omega))
    have HG3 := Lib.hid (grown_trans HG2.out (grown_trans (grown_weak HGA.out _) hk3))
    clear hH3 hk3 HA HGA HH2 HG2
    have hs0 : ∀ w b, Sem.run Tryd.prog (Instr.sliceAt 97 (.pointer (some ⟨b, 0, none⟩)) (some (.int .i64 0)) none none) w = .ok (.slice (some ⟨b, 0, none⟩) 64 64) w := fun w b => sl64_from w b 0 (by omega)
    have hs4 : ∀ w b, Sem.run Tryd.prog (Instr.sliceAt 97 (.pointer (some ⟨b, 0, none⟩)) (some (.int .i64 4)) none none) w = .ok (.slice (some ⟨b, 4, none⟩) 60 60) w := fun w b => sl64_from w b 4 (by omega)
    have hs8 : ∀ w b, Sem.run Tryd.prog (Instr.sliceAt 97 (.pointer (some ⟨b, 0, none⟩)) none (some (.int .i64 8)) none) w = .ok (.slice (some ⟨b, 0, none⟩) 8 64) w := fun w b => sl64_to w b 8 (by omega)
    go_wp2_with fail
    refine (put_is w3 w2.heap.size 0 64 64 97 (List.replicate 64 0) _ HB3.out (by simp) (by omega)).mono ?_
    rintro e w4 ⟨rfl, hB4, hk4⟩
    have HB4 := Lib.hid hB4
    have HH4 := Lib.hid (HH3.out.grown hk4 (by intro e; have := Option.some.inj e; have := HLT.out.1; omega))
    have HG4 := Lib.hid (grown_fresh HG3.out hk4 HLT.out.2)
    clear hB4 hk4 HB3 HH3 HG3
    go_wp2_with fail
    refine (put_is w4 w2.heap.size 4 60 60 97 _ _ HB4.out (by rw [over_length]; simp) (by omega)).mono ?_
    rintro e w5 ⟨rfl, hB5, hk5⟩
    have HB5 := Lib.hid hB5
    have HH5 := Lib.hid (HH4.out.grown hk5 (by intro e; have := Option.some.inj e; have := HLT.out.1; omega))
    have HG5 := Lib.hid (grown_fresh HG4.out hk5 HLT.out.2)
    clear hB5 hk5 HB4 HH4 HG4
    go_wp2_with fail
    refine (write_is w5 g _ HH5.out HN.out.2.1 (HR.out.grown HG5.out (by intro e; exact HN.out.2.1 (Option.some.inj e).symm)) (some ⟨w2.heap.size, 0, none⟩) 8 64 (endB (s.n * 8)) rfl (BytesI.blk HB5.out (endB_get _ _ (by simp))) (fun ad e _ => by obtain rfl := Option.some.inj e; exact fun h => by have := HLT.out.1; simp at h; omega) (by omega) (by rw [writeS_n]; have := HP.out; have := HN.out.1; simp; omega)).mono ?_
    rintro e w6 ⟨rfl, hH6, hk6⟩
    go_wp2_with fail
    go_end0
    refine ⟨rfl, ?_, grown_trans HG5.out hk6⟩
    have e1 : finS s = writeS (writeS s2 (List.replicate (56 - q2) 0)) (endB (s.n * 8)) := by rw [finS, HP.out.2.1, HP.out.1]; rfl
    rw [e1]
    exact hH6
end Go.Proofs.YtebnebajedlhlaaDoor
