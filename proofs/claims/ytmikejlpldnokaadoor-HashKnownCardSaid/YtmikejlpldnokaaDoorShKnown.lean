/-
  HashKnown, walked: the known sums, however they are cut.
-/
import Derived.Test.YtmikejlpldnokaaDoorShBytes
import Derived.Test.YtmikejlpldnokaaDoorShConv
import Derived.Deep.RegionHeld3
namespace Go.Proofs.YtmikejlpldnokaaDoor
open Go.RowKit

theorem cut_bytes (s : ByteArray) (a : Nat) (_h : a ≤ s.size) : intsB (s.extract 0 a).data.toList ++ intsB (s.extract a s.size).data.toList = intsB s.data.toList := by
  rw [intsB, intsB, ← List.map_append, intsB]
  congr 1
  simp only [ByteArray.data_extract, Array.toList_extract]
  simp only [List.extract_eq_take_drop, List.drop_zero, Nat.sub_zero]
  rw [show s.size - a = (s.data.toList.drop a).length by rw [List.length_drop, Array.length_toList]; rfl, List.take_length, List.take_append_drop]
theorem eq32_self' (ds : Array Value) (x : List Int) (h : ds = arrV .u8 (hashS x)) (w : World) : Sem.run Tryd.prog (Op.equalIn 10000 25 (.agg ds) (.agg ds)) w = .ok true w := by
  rw [h]; exact eq32_self w _ (hashS_length x)

def text0 : ByteArray := ⟨#[]⟩
theorem hash_text0 : (hashS (intsB text0.data.toList)).take 4 = [227, 176, 196, 66] := by kernel_rfl
set_option linter.unusedSimpArgs false in
set_option maxRecDepth 100000 in
set_option maxHeartbeats 4000000 in
theorem known_0 (w : World) (hR : Rounds w) (a0 a1 : Int) (hk : wrap64 ((IntKind.u64.wrap a0).tmod 3) = 0) (q : Nat) (hq : wrap64 ((IntKind.u64.wrap a1).tmod 1) = (q : Int)) (hqn : q ≤ 0) :
    Calls Tryd.prog 7 #[.int .i64 a0, .int .i64 a1] w fun e w' => e = .returned (.bool true) ∧ w.grownBy w' none := by
  have HR := Lib.hid hR
  have HQ := Lib.hid hqn
  obtain rfl : q = 0 := by omega
  rw [show ((0 : Nat) : Int) = 0 from rfl] at hq
  have hs1 : ∀ w, Sem.run Tryd.prog (Instr.slice 9 (.string ⟨#[]⟩) none (some (.int .i64 0)) none) w = .ok (.string (text0.extract 0 0)) w := fun w => by
    have := run_slice_string_h (P := Tryd.prog) w 9 text0 Tryd.underlying9 .i64 ((0 : Nat) : Int) (by omega) (by have : text0.size = 0 := rfl; omega)
    exact this
  have hs2 : ∀ w, Sem.run Tryd.prog (Instr.slice 9 (.string ⟨#[]⟩) (some (.int .i64 0)) none none) w = .ok (.string (text0.extract 0 text0.size)) w := fun w => by
    have := run_slice_string_l (P := Tryd.prog) w 9 text0 Tryd.underlying9 .i64 ((0 : Nat) : Int) (by omega) (by have : text0.size = 0 := rfl; omega)
    exact this
  obtain ⟨u, hu⟩ : ∃ u, u = text0.extract 0 0 := ⟨_, rfl⟩
  obtain ⟨v, hv⟩ : ∃ v, v = text0.extract 0 text0.size := ⟨_, rfl⟩
  rw [← hu] at hs1
  rw [← hv] at hs2
  have hcut : intsB u.data.toList ++ intsB v.data.toList = intsB text0.data.toList := by rw [hu, hv]; exact cut_bytes _ _ (by have : text0.size = 0 := rfl; omega)
  have hul : u.size ≤ 0 ∧ v.size ≤ 0 := by
    have h1 := congrArg List.length hcut
    rw [List.length_append, intsB_length, intsB_length, intsB_length, Array.length_toList, Array.length_toList] at h1
    have h2 : text0.data.toList.length = 0 := rfl
    have h3 : u.size = u.data.size := rfl
    have h4 : v.size = v.data.size := rfl
    omega
  have HCUT := Lib.hid (And.intro hcut hul)
  clear hR hqn hu hv hcut hul
  go_enter Tryd.func7, Tryd.ntmps7
  go_wp2_with fail
  refine (alive_is w HR.out).mono ?_
  rintro e w1 ⟨rfl, hk1⟩
  have HK1 := Lib.hid hk1
  clear hk1
  have hk' := hk
  have hq' := hq
  go_wp2_with fail
  have ht1 := fun o => Blk.new (w1.alloc o) 47 #[.int .u8 227, .int .u8 176, .int .u8 196, .int .u8 66, .int .u8 186, .int .u8 120, .int .u8 22, .int .u8 191, .int .u8 36, .int .u8 141, .int .u8 106, .int .u8 97]
  have hg1 : ∀ o o', w1.grownBy ((w1.alloc o).alloc o') none := fun o o' => grown_trans (World.grownBy_alloc w1 o none) (World.grownBy_alloc _ o' none)
  simp only [World.size_alloc] at ht1
  obtain ⟨T, hT⟩ : ∃ T : World, T = (w1.alloc (.cells #[.string ⟨#[]⟩, .string ⟨#[97, 98, 99]⟩, .string ⟨#[97, 98, 99, 100, 98, 99, 100, 101, 99, 100, 101, 102, 100, 101, 102, 103, 101, 102, 103, 104, 102, 103, 104, 105, 103, 104, 105, 106, 104, 105, 106, 107, 105, 106, 107, 108, 106, 107, 108, 109, 107, 108, 109, 110, 108, 109, 110, 111, 109, 110, 111, 112, 110, 111, 112, 113]⟩] 45)).alloc (.cells #[.int .u8 227, .int .u8 176, .int .u8 196, .int .u8 66, .int .u8 186, .int .u8 120, .int .u8 22, .int .u8 191, .int .u8 36, .int .u8 141, .int .u8 106, .int .u8 97] 47) := ⟨_, rfl⟩
  have HT := Lib.hid (show Blk T (w1.heap.size + 1) 47 _ from hT ▸ ht1 _)
  have HG := Lib.hid (show w.grownBy T none from grown_trans HK1.out (hT ▸ hg1 _ _))
  rw [← hT]
  clear hT ht1 hg1
  refine (new_is T).mono ?_
  rintro e w2 ⟨g, rfl, hH2, hgT, hk2⟩
  rw [hk']
  have HT2 := Lib.hid (HT.out.grown hk2 (by simp))
  have HG2 := Lib.hid (grown_trans HG.out hk2)
  have HH2 := Lib.hid hH2
  have HGT := Lib.hid (And.intro hgT (And.intro (show w.heap.size ≤ g from Nat.le_trans HG.out.size hgT) (And.intro HT.out.lt HR.out.lt)))
  obtain ⟨c3, w3, hc3, hcap3, hb3, hg3, hlt3⟩ := conv_is w2 u
  have hc3 := hc3 w2 rfl
  have HB3 := Lib.hid (And.intro hcap3 (And.intro hb3 (And.intro hg3 hlt3)))
  clear hk2 hH2 hgT HT HG hcap3 hb3 hg3 hlt3
  go_wp2_with fail
  refine (write_is w3 g startS (HH2.out.grown HB3.out.2.2.1 (by simp)) (by have := HGT.out; omega) ((HR.out.grown HG2.out (by simp)).grown HB3.out.2.2.1 (by simp)) (some ⟨w2.heap.size, 0, none⟩) u.size c3 (intsB u.data.toList) (by rw [intsB_length, Array.length_toList]; rfl) HB3.out.2.1 (fun ad e _ => by obtain rfl := Option.some.inj e; exact fun h => by have := HH2.out.1.lt; simp at h; omega) HB3.out.1 (by have := HCUT.out.2.1; show 0 + _ ≤ _; omega)).mono ?_
  rintro e w4 ⟨rfl, hH4, hk4⟩
  have HH4 := Lib.hid hH4
  have HT4 := Lib.hid ((HT2.out.grown HB3.out.2.2.1 (by simp)).grown hk4 (by intro e; have := Option.some.inj e; have := HGT.out; omega))
  have HG4 := Lib.hid (grown_off (grown_trans HG2.out HB3.out.2.2.1) hk4 HGT.out.2.1)
  clear hH4 hk4 hc3 HT2 HG2 HH2 HB3
  obtain ⟨c5, w5, hc5, hcap5, hb5, hg5, hlt5⟩ := conv_is w4 v
  have hc5 := hc5 w4 rfl
  have HB5 := Lib.hid (And.intro hcap5 (And.intro hb5 (And.intro hg5 hlt5)))
  clear hcap5 hb5 hg5 hlt5
  go_wp2_with fail
  refine (write_is w5 g _ (HH4.out.grown HB5.out.2.2.1 (by simp)) (by have := HGT.out; omega) ((HR.out.grown HG4.out (by simp)).grown HB5.out.2.2.1 (by simp)) (some ⟨w4.heap.size, 0, none⟩) v.size c5 (intsB v.data.toList) (by rw [intsB_length, Array.length_toList]; rfl) HB5.out.2.1 (fun ad e _ => by obtain rfl := Option.some.inj e; exact fun h => by have := HH4.out.1.lt; simp at h; omega) HB5.out.1 (by rw [writeS_n, intsB_length, Array.length_toList]; have := HCUT.out.2; have h3 : u.size = u.data.size := rfl; show 0 + _ + _ ≤ _; omega)).mono ?_
  rintro e w6 ⟨rfl, hH6, hk6⟩
  rw [← writeS_append, HCUT.out.1] at hH6
  have HH6 := Lib.hid hH6
  have HT6 := Lib.hid ((HT4.out.grown HB5.out.2.2.1 (by simp)).grown hk6 (by intro e; have := Option.some.inj e; have := HGT.out; omega))
  have HG6 := Lib.hid (grown_off (grown_trans HG4.out HB5.out.2.2.1) hk6 HGT.out.2.1)
  clear hH6 hk6 hc5 HT4 HG4 HH4 HB5
  go_wp2_with fail
  refine (sum_is w6 g _ HH6.out (HR.out.grown HG6.out (by simp)) (by rw [writeS_n, intsB_length]; show 0 + 0 ≤ _; omega)).mono ?_
  rintro e w7 ⟨rfl, hk7⟩
  rw [show digS (writeS startS (intsB text0.data.toList)) = hashS (intsB text0.data.toList) from rfl]
  obtain ⟨ds, hds⟩ : ∃ ds, ds = arrV .u8 (hashS (intsB text0.data.toList)) := ⟨_, rfl⟩
  rw [← hds]
  have hsz : ds.size = 32 := by rw [hds, arr_size, hashS_length]
  have HI3 := Lib.hid (show (Tryd.prog.info? 25).map (·.size) = some ds.size by rw [hsz]; exact info32)
  have HS3 := Lib.hid (And.intro hsz (And.intro (show (ds.all fun x => x.oneCell') = true by rw [hds]; exact arr_one _ _) hds))
  have HT7 := Lib.hid (HT6.out.grown hk7 (by simp))
  have HG7 := Lib.hid (grown_trans HG6.out hk7)
  clear hsz hds hk7 HT6 HG6 HH6
  go_wp2_with (refine wpList_store_row rfl 25 _ _ rfl w7.heap.size ds rfl rfl 25 _ (heap_alloc_new w7 _) HI3.out (by rw [HS3.out.1]; simp) HS3.out.2.1 ?_)
  rw [← z32b]
  have HD8 := Lib.hid (Blk.row (Blk.new w7 25 (arrV .u8 (List.replicate 32 0))) ds)
  have HT8 := Lib.hid (Blk.farRow (HT7.out.alloc (.cells (arrV .u8 (List.replicate 32 0)) 25)) (Nat.ne_of_lt HT7.out.lt) ds)
  have HG8 := Lib.hid (grown_row (grown_trans HG7.out (World.grownBy_alloc w7 (.cells (arrV .u8 (List.replicate 32 0)) 25) none)) (g := w7.heap.size) (.inl HG7.out.size) ds)
  generalize (w7.alloc (.cells (arrV .u8 (List.replicate 32 0)) 25)).setRow w7.heap.size ds = w8 at *
  clear HT7 HG7 HI3
  obtain ⟨g0, g1, g2, g3⟩ := take4 hash_text0
  obtain ⟨dl, hdl⟩ : ∃ dl, dl = ds.toList := ⟨_, rfl⟩
  have HDL := Lib.hid hdl
  have hS : ∀ W, w8.grownBy W none → W.cell? ⟨w7.heap.size, 0, none⟩ = some (.int .u8 227) ∧ W.cell? ⟨w7.heap.size, 1, none⟩ = some (.int .u8 176) ∧ W.cell? ⟨w7.heap.size, 2, none⟩ = some (.int .u8 196) ∧ W.cell? ⟨w7.heap.size, 3, none⟩ = some (.int .u8 66) ∧ W.cell? ⟨w1.heap.size + 1, 0, none⟩ = some (.int .u8 227) ∧ W.cell? ⟨w1.heap.size + 1, 1, none⟩ = some (.int .u8 176) ∧ W.cell? ⟨w1.heap.size + 1, 2, none⟩ = some (.int .u8 196) ∧ W.cell? ⟨w1.heap.size + 1, 3, none⟩ = some (.int .u8 66) ∧ W.rangeAt w7.heap.size 0 dl := fun W hW => by
    have hD := HD8.out.grown hW (by simp)
    have hT := HT8.out.grown hW (by simp)
    have e : ∀ i, i < 4 → W.cell? ⟨w7.heap.size, i, none⟩ = some (.int .u8 ((hashS (intsB text0.data.toList)).getD i 0)) := fun i hi => by
      rw [hD.cell, HS3.out.2.2]; exact arr_get (by rw [hashS_length]; omega)
    refine ⟨by rw [e 0 (by omega), g0], by rw [e 1 (by omega), g1], by rw [e 2 (by omega), g2], by rw [e 3 (by omega), g3], by rw [hT.cell]; rfl, by rw [hT.cell]; rfl, by rw [hT.cell]; rfl, by rw [hT.cell]; rfl, fun j v hv => ?_⟩
    rw [Nat.zero_add, hD.cell, ← Array.getElem?_toList, ← HDL.out]
    exact hv
  have hS8 := hS w8.drew (grown_drew (World.grownBy.refl w8 none))
  obtain ⟨c9, w9, hc9, hcap9, hb9, hg9, hlt9⟩ := conv_is w8.drew text0
  have hc9 : Sem.run Tryd.prog (convert 9 22 (.string ⟨#[]⟩)) w8.drew = .ok (.slice (some ⟨w8.heap.size, 0, none⟩) 0 c9) w9 := hc9 _ rfl
  have hg9' : w8.grownBy w9 none := grown_trans (grown_drew (World.grownBy.refl w8 none)) hg9
  have hS9 := hS w9 hg9'
  have HS9 := Lib.hid hS
  have HB9 := Lib.hid (And.intro hcap9 (And.intro hb9 (And.intro hg9' hlt9)))
  have hu25 := Tryd.underlying25
  have hi25 : (Tryd.prog.info? 25).map (·.size) = some dl.length := by rw [HDL.out, Array.length_toList, HS3.out.1]; exact info32
  have heq : ∀ w, Sem.run Tryd.prog (Op.equalIn 10000 25 (.agg dl.toArray) (.agg ds)) w = .ok true w := fun w => by rw [HDL.out, Array.toArray_toList]; exact eq32_self' ds _ HS3.out.2.2 w
  have hdsf := HS3.out.2.2
  have HDSF := Lib.hid hdsf
  clear hS hcap9 hb9 hg9 hlt9 g0 g1 g2 g3 hdl hg9' hdsf hk hq hk' hq' hs1 hs2
  refine wp_region_held_drew (S := (fun W => W.cell? ⟨w7.heap.size, 0, none⟩ = some (.int .u8 227) ∧ W.cell? ⟨w7.heap.size, 1, none⟩ = some (.int .u8 176) ∧ W.cell? ⟨w7.heap.size, 2, none⟩ = some (.int .u8 196) ∧ W.cell? ⟨w7.heap.size, 3, none⟩ = some (.int .u8 66) ∧ W.cell? ⟨w1.heap.size + 1, 0, none⟩ = some (.int .u8 227) ∧ W.cell? ⟨w1.heap.size + 1, 1, none⟩ = some (.int .u8 176) ∧ W.cell? ⟨w1.heap.size + 1, 2, none⟩ = some (.int .u8 196) ∧ W.cell? ⟨w1.heap.size + 1, 3, none⟩ = some (.int .u8 66) ∧ W.rangeAt w7.heap.size 0 dl)) (by kernel_rfl) hS8 (fun hHeld => ?_)
  refine wpAnyH_take (i := 0) (oi := _) (v := ?v0) rfl (by kernel_rfl) (by kernel_rfl) (by kernel_rfl) (fun _ _ _ h => h) (Or.inl ⟨by rfl, ?hy0⟩) (by assumption) ?rest0
  case hy0 => (intro w hSw; (try dsimp only at hSw); go_simp) <;> with_reducible rfl
  try simp only [Act.put, List.getElem_toArray, List.getElem_cons_succ, List.getElem_cons_zero, List.setIfInBounds_toArray, List.set_cons_zero, List.set_cons_succ]
  refine wpAnyH_take (i := 1) (oi := _) (v := ?v1) rfl (by kernel_rfl) (by kernel_rfl) (by kernel_rfl) (fun _ _ _ h => h) (Or.inl ⟨by rfl, ?hy1⟩) (by assumption) ?rest1
  case hy1 => (intro w hSw; (try dsimp only at hSw); go_simp) <;> with_reducible rfl
  try simp only [Act.put, List.getElem_toArray, List.getElem_cons_succ, List.getElem_cons_zero, List.setIfInBounds_toArray, List.set_cons_zero, List.set_cons_succ]
  refine wpAnyH_take (i := 2) (oi := _) (v := ?v2) rfl (by kernel_rfl) (by kernel_rfl) (by kernel_rfl) (fun _ _ _ h => h) (Or.inl ⟨by rfl, ?hy2⟩) (by assumption) ?rest2
  case hy2 => (intro w hSw; (try dsimp only at hSw); go_simp) <;> with_reducible rfl
  try simp only [Act.put, List.getElem_toArray, List.getElem_cons_succ, List.getElem_cons_zero, List.setIfInBounds_toArray, List.set_cons_zero, List.set_cons_succ]
  refine wpAnyH_take (i := 3) (oi := _) (v := ?v3) rfl (by kernel_rfl) (by kernel_rfl) (by kernel_rfl) (fun _ _ _ h => h) (Or.inl ⟨by rfl, ?hy3⟩) (by assumption) ?rest3
  case hy3 => (intro w hSw; (try dsimp only at hSw); go_simp) <;> with_reducible rfl
  try simp only [Act.put, List.getElem_toArray, List.getElem_cons_succ, List.getElem_cons_zero, List.setIfInBounds_toArray, List.set_cons_zero, List.set_cons_succ]
  refine wpAnyH_take (i := 4) (oi := _) (v := ?v4) rfl (by kernel_rfl) (by kernel_rfl) (by kernel_rfl) (fun _ _ _ h => h) (Or.inl ⟨by rfl, ?hy4⟩) (by assumption) ?rest4
  case hy4 => (intro w hSw; (try dsimp only at hSw); go_simp) <;> with_reducible rfl
  try simp only [Act.put, List.getElem_toArray, List.getElem_cons_succ, List.getElem_cons_zero, List.setIfInBounds_toArray, List.set_cons_zero, List.set_cons_succ]
  refine wpAnyH_take (i := 5) (oi := _) (v := ?v5) rfl (by kernel_rfl) (by kernel_rfl) (by kernel_rfl) (fun _ _ _ h => h) (Or.inl ⟨by rfl, ?hy5⟩) (by assumption) ?rest5
  case hy5 => (intro w hSw; (try dsimp only at hSw); go_simp) <;> with_reducible rfl
  try simp only [Act.put, List.getElem_toArray, List.getElem_cons_succ, List.getElem_cons_zero, List.setIfInBounds_toArray, List.set_cons_zero, List.set_cons_succ]
  refine wpAnyH_take (i := 6) (oi := _) (v := ?v6) rfl (by kernel_rfl) (by kernel_rfl) (by kernel_rfl) (fun _ _ _ h => h) (Or.inl ⟨by rfl, ?hy6⟩) (by assumption) ?rest6
  case hy6 => (intro w hSw; (try dsimp only at hSw); go_simp) <;> with_reducible rfl
  try simp only [Act.put, List.getElem_toArray, List.getElem_cons_succ, List.getElem_cons_zero, List.setIfInBounds_toArray, List.set_cons_zero, List.set_cons_succ]
  refine wpAnyH_take (i := 7) (oi := _) (v := ?v7) rfl (by kernel_rfl) (by kernel_rfl) (by kernel_rfl) (fun _ _ _ h => h) (Or.inl ⟨by rfl, ?hy7⟩) (by assumption) ?rest7
  case hy7 => (intro w hSw; (try dsimp only at hSw); go_simp) <;> with_reducible rfl
  try simp only [Act.put, List.getElem_toArray, List.getElem_cons_succ, List.getElem_cons_zero, List.setIfInBounds_toArray, List.set_cons_zero, List.set_cons_succ]
  refine wpAnyH_take (i := 8) (oi := _) (v := ?v8) rfl (by kernel_rfl) (by kernel_rfl) (by kernel_rfl) (fun _ _ _ h => h) (Or.inl ⟨by rfl, ?hy8⟩) (by assumption) ?rest8
  case hy8 => (intro w hSw; (try dsimp only at hSw); go_simp) <;> with_reducible rfl
  try simp only [Act.put, List.getElem_toArray, List.getElem_cons_succ, List.getElem_cons_zero, List.setIfInBounds_toArray, List.set_cons_zero, List.set_cons_succ]
  refine wpAnyH_take (i := 9) (oi := _) (v := ?v9) rfl (by kernel_rfl) (by kernel_rfl) (by kernel_rfl) (fun _ _ _ h => h) (Or.inl ⟨by rfl, ?hy9⟩) (by assumption) ?rest9
  case hy9 => (intro w hSw; (try dsimp only at hSw); go_simp) <;> with_reducible rfl
  try simp only [Act.put, List.getElem_toArray, List.getElem_cons_succ, List.getElem_cons_zero, List.setIfInBounds_toArray, List.set_cons_zero, List.set_cons_succ]
  refine wpAnyH_take (i := 10) (oi := _) (v := ?v10) rfl (by kernel_rfl) (by kernel_rfl) (by kernel_rfl) (fun _ _ _ h => h) (Or.inl ⟨by rfl, ?hy10⟩) (by assumption) ?rest10
  case hy10 => (intro w hSw; (try dsimp only at hSw); go_simp) <;> with_reducible rfl
  try simp only [Act.put, List.getElem_toArray, List.getElem_cons_succ, List.getElem_cons_zero, List.setIfInBounds_toArray, List.set_cons_zero, List.set_cons_succ]
  refine wpAnyH_take (i := 11) (oi := _) (v := ?v11) rfl (by kernel_rfl) (by kernel_rfl) (by kernel_rfl) (fun _ _ _ h => h) (Or.inl ⟨by rfl, ?hy11⟩) (by assumption) ?rest11
  case hy11 => (intro w hSw; (try dsimp only at hSw); go_simp) <;> with_reducible rfl
  try simp only [Act.put, List.getElem_toArray, List.getElem_cons_succ, List.getElem_cons_zero, List.setIfInBounds_toArray, List.set_cons_zero, List.set_cons_succ]
  refine wpAnyH_take (i := 12) (oi := _) (v := ?v12) rfl (by kernel_rfl) (by kernel_rfl) (by kernel_rfl) (fun _ _ _ h => h) (Or.inl ⟨by rfl, ?hy12⟩) (by assumption) ?rest12
  case hy12 => (intro w hSw; (try dsimp only at hSw); go_simp) <;> with_reducible rfl
  try simp only [Act.put, List.getElem_toArray, List.getElem_cons_succ, List.getElem_cons_zero, List.setIfInBounds_toArray, List.set_cons_zero, List.set_cons_succ]
  refine wpAnyH_take (i := 13) (oi := _) (v := ?v13) rfl (by kernel_rfl) (by kernel_rfl) (by kernel_rfl) (fun _ _ _ h => h) (Or.inl ⟨by rfl, ?hy13⟩) (by assumption) ?rest13
  case hy13 => (intro w hSw; (try dsimp only at hSw); go_simp) <;> with_reducible rfl
  try simp only [Act.put, List.getElem_toArray, List.getElem_cons_succ, List.getElem_cons_zero, List.setIfInBounds_toArray, List.set_cons_zero, List.set_cons_succ]
  refine wpAnyH_take (i := 14) (oi := _) (v := ?v14) rfl (by kernel_rfl) (by kernel_rfl) (by kernel_rfl) (fun _ _ _ h => h) (Or.inl ⟨by rfl, ?hy14⟩) (by assumption) ?rest14
  case hy14 => (intro w hSw; (try dsimp only at hSw); go_simp) <;> with_reducible rfl
  try simp only [Act.put, List.getElem_toArray, List.getElem_cons_succ, List.getElem_cons_zero, List.setIfInBounds_toArray, List.set_cons_zero, List.set_cons_succ]
  refine wpAnyH_take (i := 15) (oi := _) (v := ?v15) rfl (by kernel_rfl) (by kernel_rfl) (by kernel_rfl) (fun _ _ _ h => h) (Or.inl ⟨by rfl, ?hy15⟩) (by assumption) ?rest15
  case hy15 => (intro w hSw; (try dsimp only at hSw); go_simp) <;> with_reducible rfl
  try simp only [Act.put, List.getElem_toArray, List.getElem_cons_succ, List.getElem_cons_zero, List.setIfInBounds_toArray, List.set_cons_zero, List.set_cons_succ]
  refine wpAnyH_take (i := 16) (oi := _) (v := ?v16) rfl (by kernel_rfl) (by kernel_rfl) (by kernel_rfl) (fun _ _ _ h => h) (Or.inl ⟨by rfl, ?hy16⟩) (by assumption) ?rest16
  case hy16 => (intro w hSw; (try dsimp only at hSw); go_simp) <;> with_reducible rfl
  try simp only [Act.put, List.getElem_toArray, List.getElem_cons_succ, List.getElem_cons_zero, List.setIfInBounds_toArray, List.set_cons_zero, List.set_cons_succ]
  refine wpAnyH_take (i := 17) (oi := _) (v := ?v17) rfl (by kernel_rfl) (by kernel_rfl) (by kernel_rfl) (fun _ _ _ h => h) (Or.inl ⟨by rfl, ?hy17⟩) (by assumption) ?rest17
  case hy17 => (intro w hSw; (try dsimp only at hSw); go_simp) <;> with_reducible rfl
  try simp only [Act.put, List.getElem_toArray, List.getElem_cons_succ, List.getElem_cons_zero, List.setIfInBounds_toArray, List.set_cons_zero, List.set_cons_succ]
  refine wpAnyH_take (i := 18) (oi := _) (v := ?v18) rfl (by kernel_rfl) (by kernel_rfl) (by kernel_rfl) (fun _ _ _ h => h) (Or.inl ⟨by rfl, ?hy18⟩) (by assumption) ?rest18
  case hy18 => (intro w hSw; (try dsimp only at hSw); go_simp) <;> with_reducible rfl
  try simp only [Act.put, List.getElem_toArray, List.getElem_cons_succ, List.getElem_cons_zero, List.setIfInBounds_toArray, List.set_cons_zero, List.set_cons_succ]
  refine wpAnyH_take (i := 19) (oi := _) (v := ?v19) rfl (by kernel_rfl) (by kernel_rfl) (by kernel_rfl) (fun _ _ _ h => h) (Or.inl ⟨by rfl, ?hy19⟩) (by assumption) ?rest19
  case hy19 => (intro w hSw; (try dsimp only at hSw); go_simp) <;> with_reducible rfl
  try simp only [Act.put, List.getElem_toArray, List.getElem_cons_succ, List.getElem_cons_zero, List.setIfInBounds_toArray, List.set_cons_zero, List.set_cons_succ]
  refine wpAnyH_take (i := 20) (oi := _) (v := ?v20) rfl (by kernel_rfl) (by kernel_rfl) (by kernel_rfl) (fun _ _ _ h => h) (Or.inl ⟨by rfl, ?hy20⟩) (by assumption) ?rest20
  case hy20 => (intro w hSw; (try dsimp only at hSw); go_simp) <;> with_reducible rfl
  try simp only [Act.put, List.getElem_toArray, List.getElem_cons_succ, List.getElem_cons_zero, List.setIfInBounds_toArray, List.set_cons_zero, List.set_cons_succ]
  refine wpAnyH_take (i := 21) (oi := _) (v := ?v21) rfl (by kernel_rfl) (by kernel_rfl) (by kernel_rfl) (fun _ _ _ h => h) (Or.inl ⟨by rfl, ?hy21⟩) (by assumption) ?rest21
  case hy21 => (intro w hSw; (try dsimp only at hSw); go_simp) <;> with_reducible rfl
  try simp only [Act.put, List.getElem_toArray, List.getElem_cons_succ, List.getElem_cons_zero, List.setIfInBounds_toArray, List.set_cons_zero, List.set_cons_succ]
  refine wpAnyH_take (i := 22) (oi := _) (v := ?v22) rfl (by kernel_rfl) (by kernel_rfl) (by kernel_rfl) (fun _ _ _ h => h) (Or.inl ⟨by rfl, ?hy22⟩) (by assumption) ?rest22
  case hy22 => (intro w hSw; (try dsimp only at hSw); go_simp) <;> with_reducible rfl
  try simp only [Act.put, List.getElem_toArray, List.getElem_cons_succ, List.getElem_cons_zero, List.setIfInBounds_toArray, List.set_cons_zero, List.set_cons_succ]
  refine wpAnyH_take (i := 23) (oi := _) (v := ?v23) rfl (by kernel_rfl) (by kernel_rfl) (by kernel_rfl) (fun _ _ _ h => h) (Or.inl ⟨by rfl, ?hy23⟩) (by assumption) ?rest23
  case hy23 => (intro w hSw; (try dsimp only at hSw); go_simp) <;> with_reducible rfl
  try simp only [Act.put, List.getElem_toArray, List.getElem_cons_succ, List.getElem_cons_zero, List.setIfInBounds_toArray, List.set_cons_zero, List.set_cons_succ]
  refine wpAnyH_take (i := 24) (oi := _) (v := ?v24) rfl (by kernel_rfl) (by kernel_rfl) (by kernel_rfl) (fun _ _ _ h => h) (Or.inl ⟨by rfl, ?hy24⟩) (by assumption) ?rest24
  case hy24 => (intro w hSw; (try dsimp only at hSw); go_simp) <;> with_reducible rfl
  try simp only [Act.put, List.getElem_toArray, List.getElem_cons_succ, List.getElem_cons_zero, List.setIfInBounds_toArray, List.set_cons_zero, List.set_cons_succ]
  refine wpAnyH_take (i := 25) (oi := _) (v := ?v25) rfl (by kernel_rfl) (by kernel_rfl) (by kernel_rfl) (fun _ _ _ h => h) (Or.inl ⟨by rfl, ?hy25⟩) (by assumption) ?rest25
  case hy25 => (intro w hSw; (try dsimp only at hSw); go_simp) <;> with_reducible rfl
  try simp only [Act.put, List.getElem_toArray, List.getElem_cons_succ, List.getElem_cons_zero, List.setIfInBounds_toArray, List.set_cons_zero, List.set_cons_succ]
  refine wpAnyH_take (i := 26) (oi := _) (v := ?v26) rfl (by kernel_rfl) (by kernel_rfl) (by kernel_rfl) (fun _ _ _ h => h) (Or.inl ⟨by rfl, ?hy26⟩) (by assumption) ?rest26
  case hy26 => (intro w hSw; (try dsimp only at hSw); go_simp) <;> with_reducible rfl
  try simp only [Act.put, List.getElem_toArray, List.getElem_cons_succ, List.getElem_cons_zero, List.setIfInBounds_toArray, List.set_cons_zero, List.set_cons_succ]
  refine wpAnyH_take (i := 27) (oi := _) (v := ?v27) rfl (by kernel_rfl) (by kernel_rfl) (by kernel_rfl) (fun _ _ _ h => h) (Or.inl ⟨by rfl, ?hy27⟩) (by assumption) ?rest27
  case hy27 => (intro w hSw; (try dsimp only at hSw); go_simp) <;> with_reducible rfl
  try simp only [Act.put, List.getElem_toArray, List.getElem_cons_succ, List.getElem_cons_zero, List.setIfInBounds_toArray, List.set_cons_zero, List.set_cons_succ]
  refine wpAnyH_take (i := 28) (oi := _) (v := ?v28) rfl (by kernel_rfl) (by kernel_rfl) (by kernel_rfl) (fun _ _ _ h => h) (Or.inl ⟨by rfl, ?hy28⟩) (by assumption) ?rest28
  case hy28 => (intro w hSw; (try dsimp only at hSw); go_simp) <;> with_reducible rfl
  try simp only [Act.put, List.getElem_toArray, List.getElem_cons_succ, List.getElem_cons_zero, List.setIfInBounds_toArray, List.set_cons_zero, List.set_cons_succ]
  refine wpAnyH_take (i := 29) (oi := _) (v := ?v29) rfl (by kernel_rfl) (by kernel_rfl) (by kernel_rfl) (fun _ _ _ h => h) (Or.inl ⟨by rfl, ?hy29⟩) (by assumption) ?rest29
  case hy29 => (intro w hSw; (try dsimp only at hSw); go_simp) <;> with_reducible rfl
  try simp only [Act.put, List.getElem_toArray, List.getElem_cons_succ, List.getElem_cons_zero, List.setIfInBounds_toArray, List.set_cons_zero, List.set_cons_succ]
  refine wpAnyH_take (i := 30) (oi := _) (v := ?v30) rfl (by kernel_rfl) (by kernel_rfl) (by kernel_rfl) (fun _ _ _ h => h) (Or.inl ⟨by rfl, ?hy30⟩) (by assumption) ?rest30
  case hy30 => (intro w hSw; (try dsimp only at hSw); go_simp) <;> with_reducible rfl
  try simp only [Act.put, List.getElem_toArray, List.getElem_cons_succ, List.getElem_cons_zero, List.setIfInBounds_toArray, List.set_cons_zero, List.set_cons_succ]
  refine wpAnyH_take (i := 31) (oi := _) (v := ?v31) rfl (by kernel_rfl) (by kernel_rfl) (by kernel_rfl) (fun _ _ _ h => h) (Or.inl ⟨by rfl, ?hy31⟩) (by assumption) ?rest31
  case hy31 => (intro w hSw; (try dsimp only at hSw); go_simp) <;> with_reducible rfl
  try simp only [Act.put, List.getElem_toArray, List.getElem_cons_succ, List.getElem_cons_zero, List.setIfInBounds_toArray, List.set_cons_zero, List.set_cons_succ]
  refine wpAnyH_take (i := 32) (oi := _) (v := ?v32) rfl (by kernel_rfl) (by kernel_rfl) (by kernel_rfl) (fun _ _ _ h => h) (Or.inl ⟨by rfl, ?hy32⟩) (by assumption) ?rest32
  case hy32 => (intro w hSw; (try dsimp only at hSw); go_simp) <;> with_reducible rfl
  try simp only [Act.put, List.getElem_toArray, List.getElem_cons_succ, List.getElem_cons_zero, List.setIfInBounds_toArray, List.set_cons_zero, List.set_cons_succ]
  refine wpAnyH_take (i := 33) (oi := _) (v := ?v33) rfl (by kernel_rfl) (by kernel_rfl) (by kernel_rfl) (fun _ _ _ h => h) (Or.inl ⟨by rfl, ?hy33⟩) (by assumption) ?rest33
  case hy33 => (intro w hSw; (try dsimp only at hSw); go_simp) <;> with_reducible rfl
  try simp only [Act.put, List.getElem_toArray, List.getElem_cons_succ, List.getElem_cons_zero, List.setIfInBounds_toArray, List.set_cons_zero, List.set_cons_succ]
  refine wpAnyH_take (i := 34) (oi := _) (v := ?v34) rfl (by kernel_rfl) (by kernel_rfl) (by kernel_rfl) (fun _ _ _ h => h) (Or.inl ⟨by rfl, ?hy34⟩) (by assumption) ?rest34
  case hy34 => (intro w hSw; (try dsimp only at hSw); go_simp) <;> with_reducible rfl
  try simp only [Act.put, List.getElem_toArray, List.getElem_cons_succ, List.getElem_cons_zero, List.setIfInBounds_toArray, List.set_cons_zero, List.set_cons_succ]
  refine wpAnyH_take (i := 35) (oi := _) (v := .agg dl.toArray) rfl (by kernel_rfl) (by kernel_rfl) (by kernel_rfl) (fun _ _ _ h => h) (yieldsIf_load_mid (by rfl) 25 _ rfl w7.heap.size 0 rfl dl _ (fun w hSw => hSw.2.2.2.2.2.2.2.2) hu25 rfl hi25) (by assumption) ?_
  try simp only [Act.put, List.getElem_toArray, List.getElem_cons_succ, List.getElem_cons_zero, List.setIfInBounds_toArray, List.set_cons_zero, List.set_cons_succ]
  refine wpAnyH_take (i := 36) (oi := _) (v := ?v36) rfl (by kernel_rfl) (by kernel_rfl) (by kernel_rfl) (fun _ _ _ h => h) (Or.inl ⟨by rfl, ?hy36⟩) (by assumption) ?rest36
  case hy36 => (intro w hSw; (try dsimp only at hSw); go_simp) <;> with_reducible rfl
  try simp only [Act.put, List.getElem_toArray, List.getElem_cons_succ, List.getElem_cons_zero, List.setIfInBounds_toArray, List.set_cons_zero, List.set_cons_succ]
  refine wpAnyH_ready (rs := [37]) (by kernel_rfl) (by simp) ?_
  refine AllReadyH.cons (o := _) rfl (fun K hK => ?_) AllReadyH.nil
  go_simp
  refine hK.out _ _ ?_ (fun hHeld => ?_)
  · exact hS9
  clear hK K
  try simp only [Act.put, List.getElem_toArray, List.getElem_cons_succ, List.getElem_cons_zero, List.setIfInBounds_toArray, List.set_cons_zero, List.set_cons_succ]
  refine wpAnyH_ready (rs := [38]) (by kernel_rfl) (by simp) ?_
  refine AllReadyH.cons (o := _) rfl (fun K hK => ?_) AllReadyH.nil
  go_simp
  refine (sumf_is w9 ((HR.out.grown HG8.out (by simp)).grown HB9.out.2.2.1 (by simp)) (some ⟨w8.heap.size, 0, none⟩) 0 c9 (intsB text0.data.toList) rfl HB9.out.2.1 (fun ad e _ => by obtain rfl := Option.some.inj e; exact HB9.out.2.2.2) HB9.out.1 (by omega)).mono ?_
  rintro e w10 ⟨rfl, hk10⟩
  have hS10 := HS9.out w10 (grown_trans HB9.out.2.2.1 hk10)
  rw [← HDSF.out]
  go_wp2_with fail
  refine hK.out _ _ ?_ (fun hHeld => ?_)
  · exact hS10
  clear hK K
  try simp only [Act.put, List.getElem_toArray, List.getElem_cons_succ, List.getElem_cons_zero, List.setIfInBounds_toArray, List.set_cons_zero, List.set_cons_succ]
  refine wpAnyH_take (i := 39) (oi := _) (v := ?v39) rfl (by kernel_rfl) (by kernel_rfl) (by kernel_rfl) (fun _ _ _ h => h) (Or.inl ⟨by rfl, ?hy39⟩) (by assumption) ?rest39
  case hy39 => (intro w hSw; (try dsimp only at hSw); go_simp) <;> with_reducible rfl
  try simp only [Act.put, List.getElem_toArray, List.getElem_cons_succ, List.getElem_cons_zero, List.setIfInBounds_toArray, List.set_cons_zero, List.set_cons_succ]
  refine wpAnyH_take (i := 40) (oi := _) (v := ?v40) rfl (by kernel_rfl) (by kernel_rfl) (by kernel_rfl) (fun _ _ _ h => h) (Or.inl ⟨by rfl, ?hy40⟩) (by assumption) ?rest40
  case hy40 => (intro w hSw; (try dsimp only at hSw); go_simp) <;> with_reducible rfl
  try simp only [Act.put, List.getElem_toArray, List.getElem_cons_succ, List.getElem_cons_zero, List.setIfInBounds_toArray, List.set_cons_zero, List.set_cons_succ]
  refine wpAnyH_take (i := 41) (oi := _) (v := ?v41) rfl (by kernel_rfl) (by kernel_rfl) (by kernel_rfl) (fun _ _ _ h => h) (Or.inl ⟨by rfl, ?hy41⟩) (by assumption) ?rest41
  case hy41 => (intro w hSw; (try dsimp only at hSw); go_simp) <;> with_reducible rfl
  try simp only [Act.put, List.getElem_toArray, List.getElem_cons_succ, List.getElem_cons_zero, List.setIfInBounds_toArray, List.set_cons_zero, List.set_cons_succ]
  refine wpAnyH_done (by kernel_rfl) ?_ _
  go_wp2_with fail
  go_ret
  exact ⟨rfl, grown_trans (grown_trans HG8.out HB9.out.2.2.1) hk10⟩

def text1 : ByteArray := ⟨#[97, 98, 99]⟩
theorem hash_text1 : (hashS (intsB text1.data.toList)).take 4 = [186, 120, 22, 191] := by kernel_rfl
set_option linter.unusedSimpArgs false in
set_option maxRecDepth 100000 in
set_option maxHeartbeats 4000000 in
theorem known_1 (w : World) (hR : Rounds w) (a0 a1 : Int) (hk : wrap64 ((IntKind.u64.wrap a0).tmod 3) = 1) (q : Nat) (hq : wrap64 ((IntKind.u64.wrap a1).tmod 4) = (q : Int)) (hqn : q ≤ 3) :
    Calls Tryd.prog 7 #[.int .i64 a0, .int .i64 a1] w fun e w' => e = .returned (.bool true) ∧ w.grownBy w' none := by
  have HR := Lib.hid hR
  have HQ := Lib.hid hqn
  have hs1 : ∀ w, Sem.run Tryd.prog (Instr.slice 9 (.string ⟨#[97, 98, 99]⟩) none (some (.int .i64 (q : Int))) none) w = .ok (.string (text1.extract 0 q)) w := fun w => by
    have := run_slice_string_h (P := Tryd.prog) w 9 text1 Tryd.underlying9 .i64 ((q : Nat) : Int) (by omega) (by have : text1.size = 3 := rfl; omega)
    exact this
  have hs2 : ∀ w, Sem.run Tryd.prog (Instr.slice 9 (.string ⟨#[97, 98, 99]⟩) (some (.int .i64 (q : Int))) none none) w = .ok (.string (text1.extract q text1.size)) w := fun w => by
    have := run_slice_string_l (P := Tryd.prog) w 9 text1 Tryd.underlying9 .i64 ((q : Nat) : Int) (by omega) (by have : text1.size = 3 := rfl; omega)
    exact this
  obtain ⟨u, hu⟩ : ∃ u, u = text1.extract 0 q := ⟨_, rfl⟩
  obtain ⟨v, hv⟩ : ∃ v, v = text1.extract q text1.size := ⟨_, rfl⟩
  rw [← hu] at hs1
  rw [← hv] at hs2
  have hcut : intsB u.data.toList ++ intsB v.data.toList = intsB text1.data.toList := by rw [hu, hv]; exact cut_bytes _ _ (by have : text1.size = 3 := rfl; omega)
  have hul : u.size ≤ 3 ∧ v.size ≤ 3 := by
    have h1 := congrArg List.length hcut
    rw [List.length_append, intsB_length, intsB_length, intsB_length, Array.length_toList, Array.length_toList] at h1
    have h2 : text1.data.toList.length = 3 := rfl
    have h3 : u.size = u.data.size := rfl
    have h4 : v.size = v.data.size := rfl
    omega
  have HCUT := Lib.hid (And.intro hcut hul)
  clear hR hqn hu hv hcut hul
  go_enter Tryd.func7, Tryd.ntmps7
  go_wp2_with fail
  refine (alive_is w HR.out).mono ?_
  rintro e w1 ⟨rfl, hk1⟩
  have HK1 := Lib.hid hk1
  clear hk1
  have hk' := hk
  have hq' := hq
  go_wp2_with fail
  have ht1 := fun o => Blk.new (w1.alloc o) 47 #[.int .u8 227, .int .u8 176, .int .u8 196, .int .u8 66, .int .u8 186, .int .u8 120, .int .u8 22, .int .u8 191, .int .u8 36, .int .u8 141, .int .u8 106, .int .u8 97]
  have hg1 : ∀ o o', w1.grownBy ((w1.alloc o).alloc o') none := fun o o' => grown_trans (World.grownBy_alloc w1 o none) (World.grownBy_alloc _ o' none)
  simp only [World.size_alloc] at ht1
  obtain ⟨T, hT⟩ : ∃ T : World, T = (w1.alloc (.cells #[.string ⟨#[]⟩, .string ⟨#[97, 98, 99]⟩, .string ⟨#[97, 98, 99, 100, 98, 99, 100, 101, 99, 100, 101, 102, 100, 101, 102, 103, 101, 102, 103, 104, 102, 103, 104, 105, 103, 104, 105, 106, 104, 105, 106, 107, 105, 106, 107, 108, 106, 107, 108, 109, 107, 108, 109, 110, 108, 109, 110, 111, 109, 110, 111, 112, 110, 111, 112, 113]⟩] 45)).alloc (.cells #[.int .u8 227, .int .u8 176, .int .u8 196, .int .u8 66, .int .u8 186, .int .u8 120, .int .u8 22, .int .u8 191, .int .u8 36, .int .u8 141, .int .u8 106, .int .u8 97] 47) := ⟨_, rfl⟩
  have HT := Lib.hid (show Blk T (w1.heap.size + 1) 47 _ from hT ▸ ht1 _)
  have HG := Lib.hid (show w.grownBy T none from grown_trans HK1.out (hT ▸ hg1 _ _))
  rw [← hT]
  clear hT ht1 hg1
  refine (new_is T).mono ?_
  rintro e w2 ⟨g, rfl, hH2, hgT, hk2⟩
  rw [hk', hq']
  have HT2 := Lib.hid (HT.out.grown hk2 (by simp))
  have HG2 := Lib.hid (grown_trans HG.out hk2)
  have HH2 := Lib.hid hH2
  have HGT := Lib.hid (And.intro hgT (And.intro (show w.heap.size ≤ g from Nat.le_trans HG.out.size hgT) (And.intro HT.out.lt HR.out.lt)))
  obtain ⟨c3, w3, hc3, hcap3, hb3, hg3, hlt3⟩ := conv_is w2 u
  have hc3 := hc3 w2 rfl
  have HB3 := Lib.hid (And.intro hcap3 (And.intro hb3 (And.intro hg3 hlt3)))
  clear hk2 hH2 hgT HT HG hcap3 hb3 hg3 hlt3
  go_wp2_with fail
  refine (write_is w3 g startS (HH2.out.grown HB3.out.2.2.1 (by simp)) (by have := HGT.out; omega) ((HR.out.grown HG2.out (by simp)).grown HB3.out.2.2.1 (by simp)) (some ⟨w2.heap.size, 0, none⟩) u.size c3 (intsB u.data.toList) (by rw [intsB_length, Array.length_toList]; rfl) HB3.out.2.1 (fun ad e _ => by obtain rfl := Option.some.inj e; exact fun h => by have := HH2.out.1.lt; simp at h; omega) HB3.out.1 (by have := HCUT.out.2.1; show 0 + _ ≤ _; omega)).mono ?_
  rintro e w4 ⟨rfl, hH4, hk4⟩
  have HH4 := Lib.hid hH4
  have HT4 := Lib.hid ((HT2.out.grown HB3.out.2.2.1 (by simp)).grown hk4 (by intro e; have := Option.some.inj e; have := HGT.out; omega))
  have HG4 := Lib.hid (grown_off (grown_trans HG2.out HB3.out.2.2.1) hk4 HGT.out.2.1)
  clear hH4 hk4 hc3 HT2 HG2 HH2 HB3
  obtain ⟨c5, w5, hc5, hcap5, hb5, hg5, hlt5⟩ := conv_is w4 v
  have hc5 := hc5 w4 rfl
  have HB5 := Lib.hid (And.intro hcap5 (And.intro hb5 (And.intro hg5 hlt5)))
  clear hcap5 hb5 hg5 hlt5
  go_wp2_with fail
  refine (write_is w5 g _ (HH4.out.grown HB5.out.2.2.1 (by simp)) (by have := HGT.out; omega) ((HR.out.grown HG4.out (by simp)).grown HB5.out.2.2.1 (by simp)) (some ⟨w4.heap.size, 0, none⟩) v.size c5 (intsB v.data.toList) (by rw [intsB_length, Array.length_toList]; rfl) HB5.out.2.1 (fun ad e _ => by obtain rfl := Option.some.inj e; exact fun h => by have := HH4.out.1.lt; simp at h; omega) HB5.out.1 (by rw [writeS_n, intsB_length, Array.length_toList]; have := HCUT.out.2; have h3 : u.size = u.data.size := rfl; show 0 + _ + _ ≤ _; omega)).mono ?_
  rintro e w6 ⟨rfl, hH6, hk6⟩
  rw [← writeS_append, HCUT.out.1] at hH6
  have HH6 := Lib.hid hH6
  have HT6 := Lib.hid ((HT4.out.grown HB5.out.2.2.1 (by simp)).grown hk6 (by intro e; have := Option.some.inj e; have := HGT.out; omega))
  have HG6 := Lib.hid (grown_off (grown_trans HG4.out HB5.out.2.2.1) hk6 HGT.out.2.1)
  clear hH6 hk6 hc5 HT4 HG4 HH4 HB5
  go_wp2_with fail
  refine (sum_is w6 g _ HH6.out (HR.out.grown HG6.out (by simp)) (by rw [writeS_n, intsB_length]; show 0 + 3 ≤ _; omega)).mono ?_
  rintro e w7 ⟨rfl, hk7⟩
  rw [show digS (writeS startS (intsB text1.data.toList)) = hashS (intsB text1.data.toList) from rfl]
  obtain ⟨ds, hds⟩ : ∃ ds, ds = arrV .u8 (hashS (intsB text1.data.toList)) := ⟨_, rfl⟩
  rw [← hds]
  have hsz : ds.size = 32 := by rw [hds, arr_size, hashS_length]
  have HI3 := Lib.hid (show (Tryd.prog.info? 25).map (·.size) = some ds.size by rw [hsz]; exact info32)
  have HS3 := Lib.hid (And.intro hsz (And.intro (show (ds.all fun x => x.oneCell') = true by rw [hds]; exact arr_one _ _) hds))
  have HT7 := Lib.hid (HT6.out.grown hk7 (by simp))
  have HG7 := Lib.hid (grown_trans HG6.out hk7)
  clear hsz hds hk7 HT6 HG6 HH6
  go_wp2_with (refine wpList_store_row rfl 25 _ _ rfl w7.heap.size ds rfl rfl 25 _ (heap_alloc_new w7 _) HI3.out (by rw [HS3.out.1]; simp) HS3.out.2.1 ?_)
  rw [← z32b]
  have HD8 := Lib.hid (Blk.row (Blk.new w7 25 (arrV .u8 (List.replicate 32 0))) ds)
  have HT8 := Lib.hid (Blk.farRow (HT7.out.alloc (.cells (arrV .u8 (List.replicate 32 0)) 25)) (Nat.ne_of_lt HT7.out.lt) ds)
  have HG8 := Lib.hid (grown_row (grown_trans HG7.out (World.grownBy_alloc w7 (.cells (arrV .u8 (List.replicate 32 0)) 25) none)) (g := w7.heap.size) (.inl HG7.out.size) ds)
  generalize (w7.alloc (.cells (arrV .u8 (List.replicate 32 0)) 25)).setRow w7.heap.size ds = w8 at *
  clear HT7 HG7 HI3
  obtain ⟨g0, g1, g2, g3⟩ := take4 hash_text1
  obtain ⟨dl, hdl⟩ : ∃ dl, dl = ds.toList := ⟨_, rfl⟩
  have HDL := Lib.hid hdl
  have hS : ∀ W, w8.grownBy W none → W.cell? ⟨w7.heap.size, 0, none⟩ = some (.int .u8 186) ∧ W.cell? ⟨w7.heap.size, 1, none⟩ = some (.int .u8 120) ∧ W.cell? ⟨w7.heap.size, 2, none⟩ = some (.int .u8 22) ∧ W.cell? ⟨w7.heap.size, 3, none⟩ = some (.int .u8 191) ∧ W.cell? ⟨w1.heap.size + 1, 4, none⟩ = some (.int .u8 186) ∧ W.cell? ⟨w1.heap.size + 1, 5, none⟩ = some (.int .u8 120) ∧ W.cell? ⟨w1.heap.size + 1, 6, none⟩ = some (.int .u8 22) ∧ W.cell? ⟨w1.heap.size + 1, 7, none⟩ = some (.int .u8 191) ∧ W.rangeAt w7.heap.size 0 dl := fun W hW => by
    have hD := HD8.out.grown hW (by simp)
    have hT := HT8.out.grown hW (by simp)
    have e : ∀ i, i < 4 → W.cell? ⟨w7.heap.size, i, none⟩ = some (.int .u8 ((hashS (intsB text1.data.toList)).getD i 0)) := fun i hi => by
      rw [hD.cell, HS3.out.2.2]; exact arr_get (by rw [hashS_length]; omega)
    refine ⟨by rw [e 0 (by omega), g0], by rw [e 1 (by omega), g1], by rw [e 2 (by omega), g2], by rw [e 3 (by omega), g3], by rw [hT.cell]; rfl, by rw [hT.cell]; rfl, by rw [hT.cell]; rfl, by rw [hT.cell]; rfl, fun j v hv => ?_⟩
    rw [Nat.zero_add, hD.cell, ← Array.getElem?_toList, ← HDL.out]
    exact hv
  have hS8 := hS w8.drew (grown_drew (World.grownBy.refl w8 none))
  obtain ⟨c9, w9, hc9, hcap9, hb9, hg9, hlt9⟩ := conv_is w8.drew text1
  have hc9 : Sem.run Tryd.prog (convert 9 22 (.string ⟨#[97, 98, 99]⟩)) w8.drew = .ok (.slice (some ⟨w8.heap.size, 0, none⟩) 3 c9) w9 := hc9 _ rfl
  have hg9' : w8.grownBy w9 none := grown_trans (grown_drew (World.grownBy.refl w8 none)) hg9
  have hS9 := hS w9 hg9'
  have HS9 := Lib.hid hS
  have HB9 := Lib.hid (And.intro hcap9 (And.intro hb9 (And.intro hg9' hlt9)))
  have hu25 := Tryd.underlying25
  have hi25 : (Tryd.prog.info? 25).map (·.size) = some dl.length := by rw [HDL.out, Array.length_toList, HS3.out.1]; exact info32
  have heq : ∀ w, Sem.run Tryd.prog (Op.equalIn 10000 25 (.agg dl.toArray) (.agg ds)) w = .ok true w := fun w => by rw [HDL.out, Array.toArray_toList]; exact eq32_self' ds _ HS3.out.2.2 w
  have hdsf := HS3.out.2.2
  have HDSF := Lib.hid hdsf
  clear hS hcap9 hb9 hg9 hlt9 g0 g1 g2 g3 hdl hg9' hdsf hk hq hk' hq' hs1 hs2
  refine wp_region_held_drew (S := (fun W => W.cell? ⟨w7.heap.size, 0, none⟩ = some (.int .u8 186) ∧ W.cell? ⟨w7.heap.size, 1, none⟩ = some (.int .u8 120) ∧ W.cell? ⟨w7.heap.size, 2, none⟩ = some (.int .u8 22) ∧ W.cell? ⟨w7.heap.size, 3, none⟩ = some (.int .u8 191) ∧ W.cell? ⟨w1.heap.size + 1, 4, none⟩ = some (.int .u8 186) ∧ W.cell? ⟨w1.heap.size + 1, 5, none⟩ = some (.int .u8 120) ∧ W.cell? ⟨w1.heap.size + 1, 6, none⟩ = some (.int .u8 22) ∧ W.cell? ⟨w1.heap.size + 1, 7, none⟩ = some (.int .u8 191) ∧ W.rangeAt w7.heap.size 0 dl)) (by kernel_rfl) hS8 (fun hHeld => ?_)
  refine wpAnyH_take (i := 0) (oi := _) (v := ?v0) rfl (by kernel_rfl) (by kernel_rfl) (by kernel_rfl) (fun _ _ _ h => h) (Or.inl ⟨by rfl, ?hy0⟩) (by assumption) ?rest0
  case hy0 => (intro w hSw; (try dsimp only at hSw); go_simp) <;> with_reducible rfl
  try simp only [Act.put, List.getElem_toArray, List.getElem_cons_succ, List.getElem_cons_zero, List.setIfInBounds_toArray, List.set_cons_zero, List.set_cons_succ]
  refine wpAnyH_take (i := 1) (oi := _) (v := ?v1) rfl (by kernel_rfl) (by kernel_rfl) (by kernel_rfl) (fun _ _ _ h => h) (Or.inl ⟨by rfl, ?hy1⟩) (by assumption) ?rest1
  case hy1 => (intro w hSw; (try dsimp only at hSw); go_simp) <;> with_reducible rfl
  try simp only [Act.put, List.getElem_toArray, List.getElem_cons_succ, List.getElem_cons_zero, List.setIfInBounds_toArray, List.set_cons_zero, List.set_cons_succ]
  refine wpAnyH_take (i := 2) (oi := _) (v := ?v2) rfl (by kernel_rfl) (by kernel_rfl) (by kernel_rfl) (fun _ _ _ h => h) (Or.inl ⟨by rfl, ?hy2⟩) (by assumption) ?rest2
  case hy2 => (intro w hSw; (try dsimp only at hSw); go_simp) <;> with_reducible rfl
  try simp only [Act.put, List.getElem_toArray, List.getElem_cons_succ, List.getElem_cons_zero, List.setIfInBounds_toArray, List.set_cons_zero, List.set_cons_succ]
  refine wpAnyH_take (i := 3) (oi := _) (v := ?v3) rfl (by kernel_rfl) (by kernel_rfl) (by kernel_rfl) (fun _ _ _ h => h) (Or.inl ⟨by rfl, ?hy3⟩) (by assumption) ?rest3
  case hy3 => (intro w hSw; (try dsimp only at hSw); go_simp) <;> with_reducible rfl
  try simp only [Act.put, List.getElem_toArray, List.getElem_cons_succ, List.getElem_cons_zero, List.setIfInBounds_toArray, List.set_cons_zero, List.set_cons_succ]
  refine wpAnyH_take (i := 4) (oi := _) (v := ?v4) rfl (by kernel_rfl) (by kernel_rfl) (by kernel_rfl) (fun _ _ _ h => h) (Or.inl ⟨by rfl, ?hy4⟩) (by assumption) ?rest4
  case hy4 => (intro w hSw; (try dsimp only at hSw); go_simp) <;> with_reducible rfl
  try simp only [Act.put, List.getElem_toArray, List.getElem_cons_succ, List.getElem_cons_zero, List.setIfInBounds_toArray, List.set_cons_zero, List.set_cons_succ]
  refine wpAnyH_take (i := 5) (oi := _) (v := ?v5) rfl (by kernel_rfl) (by kernel_rfl) (by kernel_rfl) (fun _ _ _ h => h) (Or.inl ⟨by rfl, ?hy5⟩) (by assumption) ?rest5
  case hy5 => (intro w hSw; (try dsimp only at hSw); go_simp) <;> with_reducible rfl
  try simp only [Act.put, List.getElem_toArray, List.getElem_cons_succ, List.getElem_cons_zero, List.setIfInBounds_toArray, List.set_cons_zero, List.set_cons_succ]
  refine wpAnyH_take (i := 6) (oi := _) (v := ?v6) rfl (by kernel_rfl) (by kernel_rfl) (by kernel_rfl) (fun _ _ _ h => h) (Or.inl ⟨by rfl, ?hy6⟩) (by assumption) ?rest6
  case hy6 => (intro w hSw; (try dsimp only at hSw); go_simp) <;> with_reducible rfl
  try simp only [Act.put, List.getElem_toArray, List.getElem_cons_succ, List.getElem_cons_zero, List.setIfInBounds_toArray, List.set_cons_zero, List.set_cons_succ]
  refine wpAnyH_take (i := 7) (oi := _) (v := ?v7) rfl (by kernel_rfl) (by kernel_rfl) (by kernel_rfl) (fun _ _ _ h => h) (Or.inl ⟨by rfl, ?hy7⟩) (by assumption) ?rest7
  case hy7 => (intro w hSw; (try dsimp only at hSw); go_simp) <;> with_reducible rfl
  try simp only [Act.put, List.getElem_toArray, List.getElem_cons_succ, List.getElem_cons_zero, List.setIfInBounds_toArray, List.set_cons_zero, List.set_cons_succ]
  refine wpAnyH_take (i := 8) (oi := _) (v := ?v8) rfl (by kernel_rfl) (by kernel_rfl) (by kernel_rfl) (fun _ _ _ h => h) (Or.inl ⟨by rfl, ?hy8⟩) (by assumption) ?rest8
  case hy8 => (intro w hSw; (try dsimp only at hSw); go_simp) <;> with_reducible rfl
  try simp only [Act.put, List.getElem_toArray, List.getElem_cons_succ, List.getElem_cons_zero, List.setIfInBounds_toArray, List.set_cons_zero, List.set_cons_succ]
  refine wpAnyH_take (i := 9) (oi := _) (v := ?v9) rfl (by kernel_rfl) (by kernel_rfl) (by kernel_rfl) (fun _ _ _ h => h) (Or.inl ⟨by rfl, ?hy9⟩) (by assumption) ?rest9
  case hy9 => (intro w hSw; (try dsimp only at hSw); go_simp) <;> with_reducible rfl
  try simp only [Act.put, List.getElem_toArray, List.getElem_cons_succ, List.getElem_cons_zero, List.setIfInBounds_toArray, List.set_cons_zero, List.set_cons_succ]
  refine wpAnyH_take (i := 10) (oi := _) (v := ?v10) rfl (by kernel_rfl) (by kernel_rfl) (by kernel_rfl) (fun _ _ _ h => h) (Or.inl ⟨by rfl, ?hy10⟩) (by assumption) ?rest10
  case hy10 => (intro w hSw; (try dsimp only at hSw); go_simp) <;> with_reducible rfl
  try simp only [Act.put, List.getElem_toArray, List.getElem_cons_succ, List.getElem_cons_zero, List.setIfInBounds_toArray, List.set_cons_zero, List.set_cons_succ]
  refine wpAnyH_take (i := 11) (oi := _) (v := ?v11) rfl (by kernel_rfl) (by kernel_rfl) (by kernel_rfl) (fun _ _ _ h => h) (Or.inl ⟨by rfl, ?hy11⟩) (by assumption) ?rest11
  case hy11 => (intro w hSw; (try dsimp only at hSw); go_simp) <;> with_reducible rfl
  try simp only [Act.put, List.getElem_toArray, List.getElem_cons_succ, List.getElem_cons_zero, List.setIfInBounds_toArray, List.set_cons_zero, List.set_cons_succ]
  refine wpAnyH_take (i := 12) (oi := _) (v := ?v12) rfl (by kernel_rfl) (by kernel_rfl) (by kernel_rfl) (fun _ _ _ h => h) (Or.inl ⟨by rfl, ?hy12⟩) (by assumption) ?rest12
  case hy12 => (intro w hSw; (try dsimp only at hSw); go_simp) <;> with_reducible rfl
  try simp only [Act.put, List.getElem_toArray, List.getElem_cons_succ, List.getElem_cons_zero, List.setIfInBounds_toArray, List.set_cons_zero, List.set_cons_succ]
  refine wpAnyH_take (i := 13) (oi := _) (v := ?v13) rfl (by kernel_rfl) (by kernel_rfl) (by kernel_rfl) (fun _ _ _ h => h) (Or.inl ⟨by rfl, ?hy13⟩) (by assumption) ?rest13
  case hy13 => (intro w hSw; (try dsimp only at hSw); go_simp) <;> with_reducible rfl
  try simp only [Act.put, List.getElem_toArray, List.getElem_cons_succ, List.getElem_cons_zero, List.setIfInBounds_toArray, List.set_cons_zero, List.set_cons_succ]
  refine wpAnyH_take (i := 14) (oi := _) (v := ?v14) rfl (by kernel_rfl) (by kernel_rfl) (by kernel_rfl) (fun _ _ _ h => h) (Or.inl ⟨by rfl, ?hy14⟩) (by assumption) ?rest14
  case hy14 => (intro w hSw; (try dsimp only at hSw); go_simp) <;> with_reducible rfl
  try simp only [Act.put, List.getElem_toArray, List.getElem_cons_succ, List.getElem_cons_zero, List.setIfInBounds_toArray, List.set_cons_zero, List.set_cons_succ]
  refine wpAnyH_take (i := 15) (oi := _) (v := ?v15) rfl (by kernel_rfl) (by kernel_rfl) (by kernel_rfl) (fun _ _ _ h => h) (Or.inl ⟨by rfl, ?hy15⟩) (by assumption) ?rest15
  case hy15 => (intro w hSw; (try dsimp only at hSw); go_simp) <;> with_reducible rfl
  try simp only [Act.put, List.getElem_toArray, List.getElem_cons_succ, List.getElem_cons_zero, List.setIfInBounds_toArray, List.set_cons_zero, List.set_cons_succ]
  refine wpAnyH_take (i := 16) (oi := _) (v := ?v16) rfl (by kernel_rfl) (by kernel_rfl) (by kernel_rfl) (fun _ _ _ h => h) (Or.inl ⟨by rfl, ?hy16⟩) (by assumption) ?rest16
  case hy16 => (intro w hSw; (try dsimp only at hSw); go_simp) <;> with_reducible rfl
  try simp only [Act.put, List.getElem_toArray, List.getElem_cons_succ, List.getElem_cons_zero, List.setIfInBounds_toArray, List.set_cons_zero, List.set_cons_succ]
  refine wpAnyH_take (i := 17) (oi := _) (v := ?v17) rfl (by kernel_rfl) (by kernel_rfl) (by kernel_rfl) (fun _ _ _ h => h) (Or.inl ⟨by rfl, ?hy17⟩) (by assumption) ?rest17
  case hy17 => (intro w hSw; (try dsimp only at hSw); go_simp) <;> with_reducible rfl
  try simp only [Act.put, List.getElem_toArray, List.getElem_cons_succ, List.getElem_cons_zero, List.setIfInBounds_toArray, List.set_cons_zero, List.set_cons_succ]
  refine wpAnyH_take (i := 18) (oi := _) (v := ?v18) rfl (by kernel_rfl) (by kernel_rfl) (by kernel_rfl) (fun _ _ _ h => h) (Or.inl ⟨by rfl, ?hy18⟩) (by assumption) ?rest18
  case hy18 => (intro w hSw; (try dsimp only at hSw); go_simp) <;> with_reducible rfl
  try simp only [Act.put, List.getElem_toArray, List.getElem_cons_succ, List.getElem_cons_zero, List.setIfInBounds_toArray, List.set_cons_zero, List.set_cons_succ]
  refine wpAnyH_take (i := 19) (oi := _) (v := ?v19) rfl (by kernel_rfl) (by kernel_rfl) (by kernel_rfl) (fun _ _ _ h => h) (Or.inl ⟨by rfl, ?hy19⟩) (by assumption) ?rest19
  case hy19 => (intro w hSw; (try dsimp only at hSw); go_simp) <;> with_reducible rfl
  try simp only [Act.put, List.getElem_toArray, List.getElem_cons_succ, List.getElem_cons_zero, List.setIfInBounds_toArray, List.set_cons_zero, List.set_cons_succ]
  refine wpAnyH_take (i := 20) (oi := _) (v := ?v20) rfl (by kernel_rfl) (by kernel_rfl) (by kernel_rfl) (fun _ _ _ h => h) (Or.inl ⟨by rfl, ?hy20⟩) (by assumption) ?rest20
  case hy20 => (intro w hSw; (try dsimp only at hSw); go_simp) <;> with_reducible rfl
  try simp only [Act.put, List.getElem_toArray, List.getElem_cons_succ, List.getElem_cons_zero, List.setIfInBounds_toArray, List.set_cons_zero, List.set_cons_succ]
  refine wpAnyH_take (i := 21) (oi := _) (v := ?v21) rfl (by kernel_rfl) (by kernel_rfl) (by kernel_rfl) (fun _ _ _ h => h) (Or.inl ⟨by rfl, ?hy21⟩) (by assumption) ?rest21
  case hy21 => (intro w hSw; (try dsimp only at hSw); go_simp) <;> with_reducible rfl
  try simp only [Act.put, List.getElem_toArray, List.getElem_cons_succ, List.getElem_cons_zero, List.setIfInBounds_toArray, List.set_cons_zero, List.set_cons_succ]
  refine wpAnyH_take (i := 22) (oi := _) (v := ?v22) rfl (by kernel_rfl) (by kernel_rfl) (by kernel_rfl) (fun _ _ _ h => h) (Or.inl ⟨by rfl, ?hy22⟩) (by assumption) ?rest22
  case hy22 => (intro w hSw; (try dsimp only at hSw); go_simp) <;> with_reducible rfl
  try simp only [Act.put, List.getElem_toArray, List.getElem_cons_succ, List.getElem_cons_zero, List.setIfInBounds_toArray, List.set_cons_zero, List.set_cons_succ]
  refine wpAnyH_take (i := 23) (oi := _) (v := ?v23) rfl (by kernel_rfl) (by kernel_rfl) (by kernel_rfl) (fun _ _ _ h => h) (Or.inl ⟨by rfl, ?hy23⟩) (by assumption) ?rest23
  case hy23 => (intro w hSw; (try dsimp only at hSw); go_simp) <;> with_reducible rfl
  try simp only [Act.put, List.getElem_toArray, List.getElem_cons_succ, List.getElem_cons_zero, List.setIfInBounds_toArray, List.set_cons_zero, List.set_cons_succ]
  refine wpAnyH_take (i := 24) (oi := _) (v := ?v24) rfl (by kernel_rfl) (by kernel_rfl) (by kernel_rfl) (fun _ _ _ h => h) (Or.inl ⟨by rfl, ?hy24⟩) (by assumption) ?rest24
  case hy24 => (intro w hSw; (try dsimp only at hSw); go_simp) <;> with_reducible rfl
  try simp only [Act.put, List.getElem_toArray, List.getElem_cons_succ, List.getElem_cons_zero, List.setIfInBounds_toArray, List.set_cons_zero, List.set_cons_succ]
  refine wpAnyH_take (i := 25) (oi := _) (v := ?v25) rfl (by kernel_rfl) (by kernel_rfl) (by kernel_rfl) (fun _ _ _ h => h) (Or.inl ⟨by rfl, ?hy25⟩) (by assumption) ?rest25
  case hy25 => (intro w hSw; (try dsimp only at hSw); go_simp) <;> with_reducible rfl
  try simp only [Act.put, List.getElem_toArray, List.getElem_cons_succ, List.getElem_cons_zero, List.setIfInBounds_toArray, List.set_cons_zero, List.set_cons_succ]
  refine wpAnyH_take (i := 26) (oi := _) (v := ?v26) rfl (by kernel_rfl) (by kernel_rfl) (by kernel_rfl) (fun _ _ _ h => h) (Or.inl ⟨by rfl, ?hy26⟩) (by assumption) ?rest26
  case hy26 => (intro w hSw; (try dsimp only at hSw); go_simp) <;> with_reducible rfl
  try simp only [Act.put, List.getElem_toArray, List.getElem_cons_succ, List.getElem_cons_zero, List.setIfInBounds_toArray, List.set_cons_zero, List.set_cons_succ]
  refine wpAnyH_take (i := 27) (oi := _) (v := ?v27) rfl (by kernel_rfl) (by kernel_rfl) (by kernel_rfl) (fun _ _ _ h => h) (Or.inl ⟨by rfl, ?hy27⟩) (by assumption) ?rest27
  case hy27 => (intro w hSw; (try dsimp only at hSw); go_simp) <;> with_reducible rfl
  try simp only [Act.put, List.getElem_toArray, List.getElem_cons_succ, List.getElem_cons_zero, List.setIfInBounds_toArray, List.set_cons_zero, List.set_cons_succ]
  refine wpAnyH_take (i := 28) (oi := _) (v := ?v28) rfl (by kernel_rfl) (by kernel_rfl) (by kernel_rfl) (fun _ _ _ h => h) (Or.inl ⟨by rfl, ?hy28⟩) (by assumption) ?rest28
  case hy28 => (intro w hSw; (try dsimp only at hSw); go_simp) <;> with_reducible rfl
  try simp only [Act.put, List.getElem_toArray, List.getElem_cons_succ, List.getElem_cons_zero, List.setIfInBounds_toArray, List.set_cons_zero, List.set_cons_succ]
  refine wpAnyH_take (i := 29) (oi := _) (v := ?v29) rfl (by kernel_rfl) (by kernel_rfl) (by kernel_rfl) (fun _ _ _ h => h) (Or.inl ⟨by rfl, ?hy29⟩) (by assumption) ?rest29
  case hy29 => (intro w hSw; (try dsimp only at hSw); go_simp) <;> with_reducible rfl
  try simp only [Act.put, List.getElem_toArray, List.getElem_cons_succ, List.getElem_cons_zero, List.setIfInBounds_toArray, List.set_cons_zero, List.set_cons_succ]
  refine wpAnyH_take (i := 30) (oi := _) (v := ?v30) rfl (by kernel_rfl) (by kernel_rfl) (by kernel_rfl) (fun _ _ _ h => h) (Or.inl ⟨by rfl, ?hy30⟩) (by assumption) ?rest30
  case hy30 => (intro w hSw; (try dsimp only at hSw); go_simp) <;> with_reducible rfl
  try simp only [Act.put, List.getElem_toArray, List.getElem_cons_succ, List.getElem_cons_zero, List.setIfInBounds_toArray, List.set_cons_zero, List.set_cons_succ]
  refine wpAnyH_take (i := 31) (oi := _) (v := ?v31) rfl (by kernel_rfl) (by kernel_rfl) (by kernel_rfl) (fun _ _ _ h => h) (Or.inl ⟨by rfl, ?hy31⟩) (by assumption) ?rest31
  case hy31 => (intro w hSw; (try dsimp only at hSw); go_simp) <;> with_reducible rfl
  try simp only [Act.put, List.getElem_toArray, List.getElem_cons_succ, List.getElem_cons_zero, List.setIfInBounds_toArray, List.set_cons_zero, List.set_cons_succ]
  refine wpAnyH_take (i := 32) (oi := _) (v := ?v32) rfl (by kernel_rfl) (by kernel_rfl) (by kernel_rfl) (fun _ _ _ h => h) (Or.inl ⟨by rfl, ?hy32⟩) (by assumption) ?rest32
  case hy32 => (intro w hSw; (try dsimp only at hSw); go_simp) <;> with_reducible rfl
  try simp only [Act.put, List.getElem_toArray, List.getElem_cons_succ, List.getElem_cons_zero, List.setIfInBounds_toArray, List.set_cons_zero, List.set_cons_succ]
  refine wpAnyH_take (i := 33) (oi := _) (v := ?v33) rfl (by kernel_rfl) (by kernel_rfl) (by kernel_rfl) (fun _ _ _ h => h) (Or.inl ⟨by rfl, ?hy33⟩) (by assumption) ?rest33
  case hy33 => (intro w hSw; (try dsimp only at hSw); go_simp) <;> with_reducible rfl
  try simp only [Act.put, List.getElem_toArray, List.getElem_cons_succ, List.getElem_cons_zero, List.setIfInBounds_toArray, List.set_cons_zero, List.set_cons_succ]
  refine wpAnyH_take (i := 34) (oi := _) (v := ?v34) rfl (by kernel_rfl) (by kernel_rfl) (by kernel_rfl) (fun _ _ _ h => h) (Or.inl ⟨by rfl, ?hy34⟩) (by assumption) ?rest34
  case hy34 => (intro w hSw; (try dsimp only at hSw); go_simp) <;> with_reducible rfl
  try simp only [Act.put, List.getElem_toArray, List.getElem_cons_succ, List.getElem_cons_zero, List.setIfInBounds_toArray, List.set_cons_zero, List.set_cons_succ]
  refine wpAnyH_take (i := 35) (oi := _) (v := .agg dl.toArray) rfl (by kernel_rfl) (by kernel_rfl) (by kernel_rfl) (fun _ _ _ h => h) (yieldsIf_load_mid (by rfl) 25 _ rfl w7.heap.size 0 rfl dl _ (fun w hSw => hSw.2.2.2.2.2.2.2.2) hu25 rfl hi25) (by assumption) ?_
  try simp only [Act.put, List.getElem_toArray, List.getElem_cons_succ, List.getElem_cons_zero, List.setIfInBounds_toArray, List.set_cons_zero, List.set_cons_succ]
  refine wpAnyH_take (i := 36) (oi := _) (v := ?v36) rfl (by kernel_rfl) (by kernel_rfl) (by kernel_rfl) (fun _ _ _ h => h) (Or.inl ⟨by rfl, ?hy36⟩) (by assumption) ?rest36
  case hy36 => (intro w hSw; (try dsimp only at hSw); go_simp) <;> with_reducible rfl
  try simp only [Act.put, List.getElem_toArray, List.getElem_cons_succ, List.getElem_cons_zero, List.setIfInBounds_toArray, List.set_cons_zero, List.set_cons_succ]
  refine wpAnyH_ready (rs := [37]) (by kernel_rfl) (by simp) ?_
  refine AllReadyH.cons (o := _) rfl (fun K hK => ?_) AllReadyH.nil
  go_simp
  refine hK.out _ _ ?_ (fun hHeld => ?_)
  · exact hS9
  clear hK K
  try simp only [Act.put, List.getElem_toArray, List.getElem_cons_succ, List.getElem_cons_zero, List.setIfInBounds_toArray, List.set_cons_zero, List.set_cons_succ]
  refine wpAnyH_ready (rs := [38]) (by kernel_rfl) (by simp) ?_
  refine AllReadyH.cons (o := _) rfl (fun K hK => ?_) AllReadyH.nil
  go_simp
  refine (sumf_is w9 ((HR.out.grown HG8.out (by simp)).grown HB9.out.2.2.1 (by simp)) (some ⟨w8.heap.size, 0, none⟩) 3 c9 (intsB text1.data.toList) rfl HB9.out.2.1 (fun ad e _ => by obtain rfl := Option.some.inj e; exact HB9.out.2.2.2) HB9.out.1 (by omega)).mono ?_
  rintro e w10 ⟨rfl, hk10⟩
  have hS10 := HS9.out w10 (grown_trans HB9.out.2.2.1 hk10)
  rw [← HDSF.out]
  go_wp2_with fail
  refine hK.out _ _ ?_ (fun hHeld => ?_)
  · exact hS10
  clear hK K
  try simp only [Act.put, List.getElem_toArray, List.getElem_cons_succ, List.getElem_cons_zero, List.setIfInBounds_toArray, List.set_cons_zero, List.set_cons_succ]
  refine wpAnyH_take (i := 39) (oi := _) (v := ?v39) rfl (by kernel_rfl) (by kernel_rfl) (by kernel_rfl) (fun _ _ _ h => h) (Or.inl ⟨by rfl, ?hy39⟩) (by assumption) ?rest39
  case hy39 => (intro w hSw; (try dsimp only at hSw); go_simp) <;> with_reducible rfl
  try simp only [Act.put, List.getElem_toArray, List.getElem_cons_succ, List.getElem_cons_zero, List.setIfInBounds_toArray, List.set_cons_zero, List.set_cons_succ]
  refine wpAnyH_take (i := 40) (oi := _) (v := ?v40) rfl (by kernel_rfl) (by kernel_rfl) (by kernel_rfl) (fun _ _ _ h => h) (Or.inl ⟨by rfl, ?hy40⟩) (by assumption) ?rest40
  case hy40 => (intro w hSw; (try dsimp only at hSw); go_simp) <;> with_reducible rfl
  try simp only [Act.put, List.getElem_toArray, List.getElem_cons_succ, List.getElem_cons_zero, List.setIfInBounds_toArray, List.set_cons_zero, List.set_cons_succ]
  refine wpAnyH_take (i := 41) (oi := _) (v := ?v41) rfl (by kernel_rfl) (by kernel_rfl) (by kernel_rfl) (fun _ _ _ h => h) (Or.inl ⟨by rfl, ?hy41⟩) (by assumption) ?rest41
  case hy41 => (intro w hSw; (try dsimp only at hSw); go_simp) <;> with_reducible rfl
  try simp only [Act.put, List.getElem_toArray, List.getElem_cons_succ, List.getElem_cons_zero, List.setIfInBounds_toArray, List.set_cons_zero, List.set_cons_succ]
  refine wpAnyH_done (by kernel_rfl) ?_ _
  go_wp2_with fail
  go_ret
  exact ⟨rfl, grown_trans (grown_trans HG8.out HB9.out.2.2.1) hk10⟩

def text2 : ByteArray := ⟨#[97, 98, 99, 100, 98, 99, 100, 101, 99, 100, 101, 102, 100, 101, 102, 103, 101, 102, 103, 104, 102, 103, 104, 105, 103, 104, 105, 106, 104, 105, 106, 107, 105, 106, 107, 108, 106, 107, 108, 109, 107, 108, 109, 110, 108, 109, 110, 111, 109, 110, 111, 112, 110, 111, 112, 113]⟩
theorem hash_text2 : (hashS (intsB text2.data.toList)).take 4 = [36, 141, 106, 97] := by kernel_rfl
set_option linter.unusedSimpArgs false in
set_option maxRecDepth 100000 in
set_option maxHeartbeats 4000000 in
theorem known_2 (w : World) (hR : Rounds w) (a0 a1 : Int) (hk : wrap64 ((IntKind.u64.wrap a0).tmod 3) = 2) (q : Nat) (hq : wrap64 ((IntKind.u64.wrap a1).tmod 57) = (q : Int)) (hqn : q ≤ 56) :
    Calls Tryd.prog 7 #[.int .i64 a0, .int .i64 a1] w fun e w' => e = .returned (.bool true) ∧ w.grownBy w' none := by
  have HR := Lib.hid hR
  have HQ := Lib.hid hqn
  have hs1 : ∀ w, Sem.run Tryd.prog (Instr.slice 9 (.string ⟨#[97, 98, 99, 100, 98, 99, 100, 101, 99, 100, 101, 102, 100, 101, 102, 103, 101, 102, 103, 104, 102, 103, 104, 105, 103, 104, 105, 106, 104, 105, 106, 107, 105, 106, 107, 108, 106, 107, 108, 109, 107, 108, 109, 110, 108, 109, 110, 111, 109, 110, 111, 112, 110, 111, 112, 113]⟩) none (some (.int .i64 (q : Int))) none) w = .ok (.string (text2.extract 0 q)) w := fun w => by
    have := run_slice_string_h (P := Tryd.prog) w 9 text2 Tryd.underlying9 .i64 ((q : Nat) : Int) (by omega) (by have : text2.size = 56 := rfl; omega)
    exact this
  have hs2 : ∀ w, Sem.run Tryd.prog (Instr.slice 9 (.string ⟨#[97, 98, 99, 100, 98, 99, 100, 101, 99, 100, 101, 102, 100, 101, 102, 103, 101, 102, 103, 104, 102, 103, 104, 105, 103, 104, 105, 106, 104, 105, 106, 107, 105, 106, 107, 108, 106, 107, 108, 109, 107, 108, 109, 110, 108, 109, 110, 111, 109, 110, 111, 112, 110, 111, 112, 113]⟩) (some (.int .i64 (q : Int))) none none) w = .ok (.string (text2.extract q text2.size)) w := fun w => by
    have := run_slice_string_l (P := Tryd.prog) w 9 text2 Tryd.underlying9 .i64 ((q : Nat) : Int) (by omega) (by have : text2.size = 56 := rfl; omega)
    exact this
  obtain ⟨u, hu⟩ : ∃ u, u = text2.extract 0 q := ⟨_, rfl⟩
  obtain ⟨v, hv⟩ : ∃ v, v = text2.extract q text2.size := ⟨_, rfl⟩
  rw [← hu] at hs1
  rw [← hv] at hs2
  have hcut : intsB u.data.toList ++ intsB v.data.toList = intsB text2.data.toList := by rw [hu, hv]; exact cut_bytes _ _ (by have : text2.size = 56 := rfl; omega)
  have hul : u.size ≤ 56 ∧ v.size ≤ 56 := by
    have h1 := congrArg List.length hcut
    rw [List.length_append, intsB_length, intsB_length, intsB_length, Array.length_toList, Array.length_toList] at h1
    have h2 : text2.data.toList.length = 56 := rfl
    have h3 : u.size = u.data.size := rfl
    have h4 : v.size = v.data.size := rfl
    omega
  have HCUT := Lib.hid (And.intro hcut hul)
  clear hR hqn hu hv hcut hul
  go_enter Tryd.func7, Tryd.ntmps7
  go_wp2_with fail
  refine (alive_is w HR.out).mono ?_
  rintro e w1 ⟨rfl, hk1⟩
  have HK1 := Lib.hid hk1
  clear hk1
  have hk' := hk
  have hq' := hq
  go_wp2_with fail
  have ht1 := fun o => Blk.new (w1.alloc o) 47 #[.int .u8 227, .int .u8 176, .int .u8 196, .int .u8 66, .int .u8 186, .int .u8 120, .int .u8 22, .int .u8 191, .int .u8 36, .int .u8 141, .int .u8 106, .int .u8 97]
  have hg1 : ∀ o o', w1.grownBy ((w1.alloc o).alloc o') none := fun o o' => grown_trans (World.grownBy_alloc w1 o none) (World.grownBy_alloc _ o' none)
  simp only [World.size_alloc] at ht1
  obtain ⟨T, hT⟩ : ∃ T : World, T = (w1.alloc (.cells #[.string ⟨#[]⟩, .string ⟨#[97, 98, 99]⟩, .string ⟨#[97, 98, 99, 100, 98, 99, 100, 101, 99, 100, 101, 102, 100, 101, 102, 103, 101, 102, 103, 104, 102, 103, 104, 105, 103, 104, 105, 106, 104, 105, 106, 107, 105, 106, 107, 108, 106, 107, 108, 109, 107, 108, 109, 110, 108, 109, 110, 111, 109, 110, 111, 112, 110, 111, 112, 113]⟩] 45)).alloc (.cells #[.int .u8 227, .int .u8 176, .int .u8 196, .int .u8 66, .int .u8 186, .int .u8 120, .int .u8 22, .int .u8 191, .int .u8 36, .int .u8 141, .int .u8 106, .int .u8 97] 47) := ⟨_, rfl⟩
  have HT := Lib.hid (show Blk T (w1.heap.size + 1) 47 _ from hT ▸ ht1 _)
  have HG := Lib.hid (show w.grownBy T none from grown_trans HK1.out (hT ▸ hg1 _ _))
  rw [← hT]
  clear hT ht1 hg1
  refine (new_is T).mono ?_
  rintro e w2 ⟨g, rfl, hH2, hgT, hk2⟩
  rw [hk', hq']
  have HT2 := Lib.hid (HT.out.grown hk2 (by simp))
  have HG2 := Lib.hid (grown_trans HG.out hk2)
  have HH2 := Lib.hid hH2
  have HGT := Lib.hid (And.intro hgT (And.intro (show w.heap.size ≤ g from Nat.le_trans HG.out.size hgT) (And.intro HT.out.lt HR.out.lt)))
  obtain ⟨c3, w3, hc3, hcap3, hb3, hg3, hlt3⟩ := conv_is w2 u
  have hc3 := hc3 w2 rfl
  have HB3 := Lib.hid (And.intro hcap3 (And.intro hb3 (And.intro hg3 hlt3)))
  clear hk2 hH2 hgT HT HG hcap3 hb3 hg3 hlt3
  go_wp2_with fail
  refine (write_is w3 g startS (HH2.out.grown HB3.out.2.2.1 (by simp)) (by have := HGT.out; omega) ((HR.out.grown HG2.out (by simp)).grown HB3.out.2.2.1 (by simp)) (some ⟨w2.heap.size, 0, none⟩) u.size c3 (intsB u.data.toList) (by rw [intsB_length, Array.length_toList]; rfl) HB3.out.2.1 (fun ad e _ => by obtain rfl := Option.some.inj e; exact fun h => by have := HH2.out.1.lt; simp at h; omega) HB3.out.1 (by have := HCUT.out.2.1; show 0 + _ ≤ _; omega)).mono ?_
  rintro e w4 ⟨rfl, hH4, hk4⟩
  have HH4 := Lib.hid hH4
  have HT4 := Lib.hid ((HT2.out.grown HB3.out.2.2.1 (by simp)).grown hk4 (by intro e; have := Option.some.inj e; have := HGT.out; omega))
  have HG4 := Lib.hid (grown_off (grown_trans HG2.out HB3.out.2.2.1) hk4 HGT.out.2.1)
  clear hH4 hk4 hc3 HT2 HG2 HH2 HB3
  obtain ⟨c5, w5, hc5, hcap5, hb5, hg5, hlt5⟩ := conv_is w4 v
  have hc5 := hc5 w4 rfl
  have HB5 := Lib.hid (And.intro hcap5 (And.intro hb5 (And.intro hg5 hlt5)))
  clear hcap5 hb5 hg5 hlt5
  go_wp2_with fail
  refine (write_is w5 g _ (HH4.out.grown HB5.out.2.2.1 (by simp)) (by have := HGT.out; omega) ((HR.out.grown HG4.out (by simp)).grown HB5.out.2.2.1 (by simp)) (some ⟨w4.heap.size, 0, none⟩) v.size c5 (intsB v.data.toList) (by rw [intsB_length, Array.length_toList]; rfl) HB5.out.2.1 (fun ad e _ => by obtain rfl := Option.some.inj e; exact fun h => by have := HH4.out.1.lt; simp at h; omega) HB5.out.1 (by rw [writeS_n, intsB_length, Array.length_toList]; have := HCUT.out.2; have h3 : u.size = u.data.size := rfl; show 0 + _ + _ ≤ _; omega)).mono ?_
  rintro e w6 ⟨rfl, hH6, hk6⟩
  rw [← writeS_append, HCUT.out.1] at hH6
  have HH6 := Lib.hid hH6
  have HT6 := Lib.hid ((HT4.out.grown HB5.out.2.2.1 (by simp)).grown hk6 (by intro e; have := Option.some.inj e; have := HGT.out; omega))
  have HG6 := Lib.hid (grown_off (grown_trans HG4.out HB5.out.2.2.1) hk6 HGT.out.2.1)
  clear hH6 hk6 hc5 HT4 HG4 HH4 HB5
  go_wp2_with fail
  refine (sum_is w6 g _ HH6.out (HR.out.grown HG6.out (by simp)) (by rw [writeS_n, intsB_length]; show 0 + 56 ≤ _; omega)).mono ?_
  rintro e w7 ⟨rfl, hk7⟩
  rw [show digS (writeS startS (intsB text2.data.toList)) = hashS (intsB text2.data.toList) from rfl]
  obtain ⟨ds, hds⟩ : ∃ ds, ds = arrV .u8 (hashS (intsB text2.data.toList)) := ⟨_, rfl⟩
  rw [← hds]
  have hsz : ds.size = 32 := by rw [hds, arr_size, hashS_length]
  have HI3 := Lib.hid (show (Tryd.prog.info? 25).map (·.size) = some ds.size by rw [hsz]; exact info32)
  have HS3 := Lib.hid (And.intro hsz (And.intro (show (ds.all fun x => x.oneCell') = true by rw [hds]; exact arr_one _ _) hds))
  have HT7 := Lib.hid (HT6.out.grown hk7 (by simp))
  have HG7 := Lib.hid (grown_trans HG6.out hk7)
  clear hsz hds hk7 HT6 HG6 HH6
  go_wp2_with (refine wpList_store_row rfl 25 _ _ rfl w7.heap.size ds rfl rfl 25 _ (heap_alloc_new w7 _) HI3.out (by rw [HS3.out.1]; simp) HS3.out.2.1 ?_)
  rw [← z32b]
  have HD8 := Lib.hid (Blk.row (Blk.new w7 25 (arrV .u8 (List.replicate 32 0))) ds)
  have HT8 := Lib.hid (Blk.farRow (HT7.out.alloc (.cells (arrV .u8 (List.replicate 32 0)) 25)) (Nat.ne_of_lt HT7.out.lt) ds)
  have HG8 := Lib.hid (grown_row (grown_trans HG7.out (World.grownBy_alloc w7 (.cells (arrV .u8 (List.replicate 32 0)) 25) none)) (g := w7.heap.size) (.inl HG7.out.size) ds)
  generalize (w7.alloc (.cells (arrV .u8 (List.replicate 32 0)) 25)).setRow w7.heap.size ds = w8 at *
  clear HT7 HG7 HI3
  obtain ⟨g0, g1, g2, g3⟩ := take4 hash_text2
  obtain ⟨dl, hdl⟩ : ∃ dl, dl = ds.toList := ⟨_, rfl⟩
  have HDL := Lib.hid hdl
  have hS : ∀ W, w8.grownBy W none → W.cell? ⟨w7.heap.size, 0, none⟩ = some (.int .u8 36) ∧ W.cell? ⟨w7.heap.size, 1, none⟩ = some (.int .u8 141) ∧ W.cell? ⟨w7.heap.size, 2, none⟩ = some (.int .u8 106) ∧ W.cell? ⟨w7.heap.size, 3, none⟩ = some (.int .u8 97) ∧ W.cell? ⟨w1.heap.size + 1, 8, none⟩ = some (.int .u8 36) ∧ W.cell? ⟨w1.heap.size + 1, 9, none⟩ = some (.int .u8 141) ∧ W.cell? ⟨w1.heap.size + 1, 10, none⟩ = some (.int .u8 106) ∧ W.cell? ⟨w1.heap.size + 1, 11, none⟩ = some (.int .u8 97) ∧ W.rangeAt w7.heap.size 0 dl := fun W hW => by
    have hD := HD8.out.grown hW (by simp)
    have hT := HT8.out.grown hW (by simp)
    have e : ∀ i, i < 4 → W.cell? ⟨w7.heap.size, i, none⟩ = some (.int .u8 ((hashS (intsB text2.data.toList)).getD i 0)) := fun i hi => by
      rw [hD.cell, HS3.out.2.2]; exact arr_get (by rw [hashS_length]; omega)
    refine ⟨by rw [e 0 (by omega), g0], by rw [e 1 (by omega), g1], by rw [e 2 (by omega), g2], by rw [e 3 (by omega), g3], by rw [hT.cell]; rfl, by rw [hT.cell]; rfl, by rw [hT.cell]; rfl, by rw [hT.cell]; rfl, fun j v hv => ?_⟩
    rw [Nat.zero_add, hD.cell, ← Array.getElem?_toList, ← HDL.out]
    exact hv
  have hS8 := hS w8.drew (grown_drew (World.grownBy.refl w8 none))
  obtain ⟨c9, w9, hc9, hcap9, hb9, hg9, hlt9⟩ := conv_is w8.drew text2
  have hc9 : Sem.run Tryd.prog (convert 9 22 (.string ⟨#[97, 98, 99, 100, 98, 99, 100, 101, 99, 100, 101, 102, 100, 101, 102, 103, 101, 102, 103, 104, 102, 103, 104, 105, 103, 104, 105, 106, 104, 105, 106, 107, 105, 106, 107, 108, 106, 107, 108, 109, 107, 108, 109, 110, 108, 109, 110, 111, 109, 110, 111, 112, 110, 111, 112, 113]⟩)) w8.drew = .ok (.slice (some ⟨w8.heap.size, 0, none⟩) 56 c9) w9 := hc9 _ rfl
  have hg9' : w8.grownBy w9 none := grown_trans (grown_drew (World.grownBy.refl w8 none)) hg9
  have hS9 := hS w9 hg9'
  have HS9 := Lib.hid hS
  have HB9 := Lib.hid (And.intro hcap9 (And.intro hb9 (And.intro hg9' hlt9)))
  have hu25 := Tryd.underlying25
  have hi25 : (Tryd.prog.info? 25).map (·.size) = some dl.length := by rw [HDL.out, Array.length_toList, HS3.out.1]; exact info32
  have heq : ∀ w, Sem.run Tryd.prog (Op.equalIn 10000 25 (.agg dl.toArray) (.agg ds)) w = .ok true w := fun w => by rw [HDL.out, Array.toArray_toList]; exact eq32_self' ds _ HS3.out.2.2 w
  have hdsf := HS3.out.2.2
  have HDSF := Lib.hid hdsf
  clear hS hcap9 hb9 hg9 hlt9 g0 g1 g2 g3 hdl hg9' hdsf hk hq hk' hq' hs1 hs2
  refine wp_region_held_drew (S := (fun W => W.cell? ⟨w7.heap.size, 0, none⟩ = some (.int .u8 36) ∧ W.cell? ⟨w7.heap.size, 1, none⟩ = some (.int .u8 141) ∧ W.cell? ⟨w7.heap.size, 2, none⟩ = some (.int .u8 106) ∧ W.cell? ⟨w7.heap.size, 3, none⟩ = some (.int .u8 97) ∧ W.cell? ⟨w1.heap.size + 1, 8, none⟩ = some (.int .u8 36) ∧ W.cell? ⟨w1.heap.size + 1, 9, none⟩ = some (.int .u8 141) ∧ W.cell? ⟨w1.heap.size + 1, 10, none⟩ = some (.int .u8 106) ∧ W.cell? ⟨w1.heap.size + 1, 11, none⟩ = some (.int .u8 97) ∧ W.rangeAt w7.heap.size 0 dl)) (by kernel_rfl) hS8 (fun hHeld => ?_)
  refine wpAnyH_take (i := 0) (oi := _) (v := ?v0) rfl (by kernel_rfl) (by kernel_rfl) (by kernel_rfl) (fun _ _ _ h => h) (Or.inl ⟨by rfl, ?hy0⟩) (by assumption) ?rest0
  case hy0 => (intro w hSw; (try dsimp only at hSw); go_simp) <;> with_reducible rfl
  try simp only [Act.put, List.getElem_toArray, List.getElem_cons_succ, List.getElem_cons_zero, List.setIfInBounds_toArray, List.set_cons_zero, List.set_cons_succ]
  refine wpAnyH_take (i := 1) (oi := _) (v := ?v1) rfl (by kernel_rfl) (by kernel_rfl) (by kernel_rfl) (fun _ _ _ h => h) (Or.inl ⟨by rfl, ?hy1⟩) (by assumption) ?rest1
  case hy1 => (intro w hSw; (try dsimp only at hSw); go_simp) <;> with_reducible rfl
  try simp only [Act.put, List.getElem_toArray, List.getElem_cons_succ, List.getElem_cons_zero, List.setIfInBounds_toArray, List.set_cons_zero, List.set_cons_succ]
  refine wpAnyH_take (i := 2) (oi := _) (v := ?v2) rfl (by kernel_rfl) (by kernel_rfl) (by kernel_rfl) (fun _ _ _ h => h) (Or.inl ⟨by rfl, ?hy2⟩) (by assumption) ?rest2
  case hy2 => (intro w hSw; (try dsimp only at hSw); go_simp) <;> with_reducible rfl
  try simp only [Act.put, List.getElem_toArray, List.getElem_cons_succ, List.getElem_cons_zero, List.setIfInBounds_toArray, List.set_cons_zero, List.set_cons_succ]
  refine wpAnyH_take (i := 3) (oi := _) (v := ?v3) rfl (by kernel_rfl) (by kernel_rfl) (by kernel_rfl) (fun _ _ _ h => h) (Or.inl ⟨by rfl, ?hy3⟩) (by assumption) ?rest3
  case hy3 => (intro w hSw; (try dsimp only at hSw); go_simp) <;> with_reducible rfl
  try simp only [Act.put, List.getElem_toArray, List.getElem_cons_succ, List.getElem_cons_zero, List.setIfInBounds_toArray, List.set_cons_zero, List.set_cons_succ]
  refine wpAnyH_take (i := 4) (oi := _) (v := ?v4) rfl (by kernel_rfl) (by kernel_rfl) (by kernel_rfl) (fun _ _ _ h => h) (Or.inl ⟨by rfl, ?hy4⟩) (by assumption) ?rest4
  case hy4 => (intro w hSw; (try dsimp only at hSw); go_simp) <;> with_reducible rfl
  try simp only [Act.put, List.getElem_toArray, List.getElem_cons_succ, List.getElem_cons_zero, List.setIfInBounds_toArray, List.set_cons_zero, List.set_cons_succ]
  refine wpAnyH_take (i := 5) (oi := _) (v := ?v5) rfl (by kernel_rfl) (by kernel_rfl) (by kernel_rfl) (fun _ _ _ h => h) (Or.inl ⟨by rfl, ?hy5⟩) (by assumption) ?rest5
  case hy5 => (intro w hSw; (try dsimp only at hSw); go_simp) <;> with_reducible rfl
  try simp only [Act.put, List.getElem_toArray, List.getElem_cons_succ, List.getElem_cons_zero, List.setIfInBounds_toArray, List.set_cons_zero, List.set_cons_succ]
  refine wpAnyH_take (i := 6) (oi := _) (v := ?v6) rfl (by kernel_rfl) (by kernel_rfl) (by kernel_rfl) (fun _ _ _ h => h) (Or.inl ⟨by rfl, ?hy6⟩) (by assumption) ?rest6
  case hy6 => (intro w hSw; (try dsimp only at hSw); go_simp) <;> with_reducible rfl
  try simp only [Act.put, List.getElem_toArray, List.getElem_cons_succ, List.getElem_cons_zero, List.setIfInBounds_toArray, List.set_cons_zero, List.set_cons_succ]
  refine wpAnyH_take (i := 7) (oi := _) (v := ?v7) rfl (by kernel_rfl) (by kernel_rfl) (by kernel_rfl) (fun _ _ _ h => h) (Or.inl ⟨by rfl, ?hy7⟩) (by assumption) ?rest7
  case hy7 => (intro w hSw; (try dsimp only at hSw); go_simp) <;> with_reducible rfl
  try simp only [Act.put, List.getElem_toArray, List.getElem_cons_succ, List.getElem_cons_zero, List.setIfInBounds_toArray, List.set_cons_zero, List.set_cons_succ]
  refine wpAnyH_take (i := 8) (oi := _) (v := ?v8) rfl (by kernel_rfl) (by kernel_rfl) (by kernel_rfl) (fun _ _ _ h => h) (Or.inl ⟨by rfl, ?hy8⟩) (by assumption) ?rest8
  case hy8 => (intro w hSw; (try dsimp only at hSw); go_simp) <;> with_reducible rfl
  try simp only [Act.put, List.getElem_toArray, List.getElem_cons_succ, List.getElem_cons_zero, List.setIfInBounds_toArray, List.set_cons_zero, List.set_cons_succ]
  refine wpAnyH_take (i := 9) (oi := _) (v := ?v9) rfl (by kernel_rfl) (by kernel_rfl) (by kernel_rfl) (fun _ _ _ h => h) (Or.inl ⟨by rfl, ?hy9⟩) (by assumption) ?rest9
  case hy9 => (intro w hSw; (try dsimp only at hSw); go_simp) <;> with_reducible rfl
  try simp only [Act.put, List.getElem_toArray, List.getElem_cons_succ, List.getElem_cons_zero, List.setIfInBounds_toArray, List.set_cons_zero, List.set_cons_succ]
  refine wpAnyH_take (i := 10) (oi := _) (v := ?v10) rfl (by kernel_rfl) (by kernel_rfl) (by kernel_rfl) (fun _ _ _ h => h) (Or.inl ⟨by rfl, ?hy10⟩) (by assumption) ?rest10
  case hy10 => (intro w hSw; (try dsimp only at hSw); go_simp) <;> with_reducible rfl
  try simp only [Act.put, List.getElem_toArray, List.getElem_cons_succ, List.getElem_cons_zero, List.setIfInBounds_toArray, List.set_cons_zero, List.set_cons_succ]
  refine wpAnyH_take (i := 11) (oi := _) (v := ?v11) rfl (by kernel_rfl) (by kernel_rfl) (by kernel_rfl) (fun _ _ _ h => h) (Or.inl ⟨by rfl, ?hy11⟩) (by assumption) ?rest11
  case hy11 => (intro w hSw; (try dsimp only at hSw); go_simp) <;> with_reducible rfl
  try simp only [Act.put, List.getElem_toArray, List.getElem_cons_succ, List.getElem_cons_zero, List.setIfInBounds_toArray, List.set_cons_zero, List.set_cons_succ]
  refine wpAnyH_take (i := 12) (oi := _) (v := ?v12) rfl (by kernel_rfl) (by kernel_rfl) (by kernel_rfl) (fun _ _ _ h => h) (Or.inl ⟨by rfl, ?hy12⟩) (by assumption) ?rest12
  case hy12 => (intro w hSw; (try dsimp only at hSw); go_simp) <;> with_reducible rfl
  try simp only [Act.put, List.getElem_toArray, List.getElem_cons_succ, List.getElem_cons_zero, List.setIfInBounds_toArray, List.set_cons_zero, List.set_cons_succ]
  refine wpAnyH_take (i := 13) (oi := _) (v := ?v13) rfl (by kernel_rfl) (by kernel_rfl) (by kernel_rfl) (fun _ _ _ h => h) (Or.inl ⟨by rfl, ?hy13⟩) (by assumption) ?rest13
  case hy13 => (intro w hSw; (try dsimp only at hSw); go_simp) <;> with_reducible rfl
  try simp only [Act.put, List.getElem_toArray, List.getElem_cons_succ, List.getElem_cons_zero, List.setIfInBounds_toArray, List.set_cons_zero, List.set_cons_succ]
  refine wpAnyH_take (i := 14) (oi := _) (v := ?v14) rfl (by kernel_rfl) (by kernel_rfl) (by kernel_rfl) (fun _ _ _ h => h) (Or.inl ⟨by rfl, ?hy14⟩) (by assumption) ?rest14
  case hy14 => (intro w hSw; (try dsimp only at hSw); go_simp) <;> with_reducible rfl
  try simp only [Act.put, List.getElem_toArray, List.getElem_cons_succ, List.getElem_cons_zero, List.setIfInBounds_toArray, List.set_cons_zero, List.set_cons_succ]
  refine wpAnyH_take (i := 15) (oi := _) (v := ?v15) rfl (by kernel_rfl) (by kernel_rfl) (by kernel_rfl) (fun _ _ _ h => h) (Or.inl ⟨by rfl, ?hy15⟩) (by assumption) ?rest15
  case hy15 => (intro w hSw; (try dsimp only at hSw); go_simp) <;> with_reducible rfl
  try simp only [Act.put, List.getElem_toArray, List.getElem_cons_succ, List.getElem_cons_zero, List.setIfInBounds_toArray, List.set_cons_zero, List.set_cons_succ]
  refine wpAnyH_take (i := 16) (oi := _) (v := ?v16) rfl (by kernel_rfl) (by kernel_rfl) (by kernel_rfl) (fun _ _ _ h => h) (Or.inl ⟨by rfl, ?hy16⟩) (by assumption) ?rest16
  case hy16 => (intro w hSw; (try dsimp only at hSw); go_simp) <;> with_reducible rfl
  try simp only [Act.put, List.getElem_toArray, List.getElem_cons_succ, List.getElem_cons_zero, List.setIfInBounds_toArray, List.set_cons_zero, List.set_cons_succ]
  refine wpAnyH_take (i := 17) (oi := _) (v := ?v17) rfl (by kernel_rfl) (by kernel_rfl) (by kernel_rfl) (fun _ _ _ h => h) (Or.inl ⟨by rfl, ?hy17⟩) (by assumption) ?rest17
  case hy17 => (intro w hSw; (try dsimp only at hSw); go_simp) <;> with_reducible rfl
  try simp only [Act.put, List.getElem_toArray, List.getElem_cons_succ, List.getElem_cons_zero, List.setIfInBounds_toArray, List.set_cons_zero, List.set_cons_succ]
  refine wpAnyH_take (i := 18) (oi := _) (v := ?v18) rfl (by kernel_rfl) (by kernel_rfl) (by kernel_rfl) (fun _ _ _ h => h) (Or.inl ⟨by rfl, ?hy18⟩) (by assumption) ?rest18
  case hy18 => (intro w hSw; (try dsimp only at hSw); go_simp) <;> with_reducible rfl
  try simp only [Act.put, List.getElem_toArray, List.getElem_cons_succ, List.getElem_cons_zero, List.setIfInBounds_toArray, List.set_cons_zero, List.set_cons_succ]
  refine wpAnyH_take (i := 19) (oi := _) (v := ?v19) rfl (by kernel_rfl) (by kernel_rfl) (by kernel_rfl) (fun _ _ _ h => h) (Or.inl ⟨by rfl, ?hy19⟩) (by assumption) ?rest19
  case hy19 => (intro w hSw; (try dsimp only at hSw); go_simp) <;> with_reducible rfl
  try simp only [Act.put, List.getElem_toArray, List.getElem_cons_succ, List.getElem_cons_zero, List.setIfInBounds_toArray, List.set_cons_zero, List.set_cons_succ]
  refine wpAnyH_take (i := 20) (oi := _) (v := ?v20) rfl (by kernel_rfl) (by kernel_rfl) (by kernel_rfl) (fun _ _ _ h => h) (Or.inl ⟨by rfl, ?hy20⟩) (by assumption) ?rest20
  case hy20 => (intro w hSw; (try dsimp only at hSw); go_simp) <;> with_reducible rfl
  try simp only [Act.put, List.getElem_toArray, List.getElem_cons_succ, List.getElem_cons_zero, List.setIfInBounds_toArray, List.set_cons_zero, List.set_cons_succ]
  refine wpAnyH_take (i := 21) (oi := _) (v := ?v21) rfl (by kernel_rfl) (by kernel_rfl) (by kernel_rfl) (fun _ _ _ h => h) (Or.inl ⟨by rfl, ?hy21⟩) (by assumption) ?rest21
  case hy21 => (intro w hSw; (try dsimp only at hSw); go_simp) <;> with_reducible rfl
  try simp only [Act.put, List.getElem_toArray, List.getElem_cons_succ, List.getElem_cons_zero, List.setIfInBounds_toArray, List.set_cons_zero, List.set_cons_succ]
  refine wpAnyH_take (i := 22) (oi := _) (v := ?v22) rfl (by kernel_rfl) (by kernel_rfl) (by kernel_rfl) (fun _ _ _ h => h) (Or.inl ⟨by rfl, ?hy22⟩) (by assumption) ?rest22
  case hy22 => (intro w hSw; (try dsimp only at hSw); go_simp) <;> with_reducible rfl
  try simp only [Act.put, List.getElem_toArray, List.getElem_cons_succ, List.getElem_cons_zero, List.setIfInBounds_toArray, List.set_cons_zero, List.set_cons_succ]
  refine wpAnyH_take (i := 23) (oi := _) (v := ?v23) rfl (by kernel_rfl) (by kernel_rfl) (by kernel_rfl) (fun _ _ _ h => h) (Or.inl ⟨by rfl, ?hy23⟩) (by assumption) ?rest23
  case hy23 => (intro w hSw; (try dsimp only at hSw); go_simp) <;> with_reducible rfl
  try simp only [Act.put, List.getElem_toArray, List.getElem_cons_succ, List.getElem_cons_zero, List.setIfInBounds_toArray, List.set_cons_zero, List.set_cons_succ]
  refine wpAnyH_take (i := 24) (oi := _) (v := ?v24) rfl (by kernel_rfl) (by kernel_rfl) (by kernel_rfl) (fun _ _ _ h => h) (Or.inl ⟨by rfl, ?hy24⟩) (by assumption) ?rest24
  case hy24 => (intro w hSw; (try dsimp only at hSw); go_simp) <;> with_reducible rfl
  try simp only [Act.put, List.getElem_toArray, List.getElem_cons_succ, List.getElem_cons_zero, List.setIfInBounds_toArray, List.set_cons_zero, List.set_cons_succ]
  refine wpAnyH_take (i := 25) (oi := _) (v := ?v25) rfl (by kernel_rfl) (by kernel_rfl) (by kernel_rfl) (fun _ _ _ h => h) (Or.inl ⟨by rfl, ?hy25⟩) (by assumption) ?rest25
  case hy25 => (intro w hSw; (try dsimp only at hSw); go_simp) <;> with_reducible rfl
  try simp only [Act.put, List.getElem_toArray, List.getElem_cons_succ, List.getElem_cons_zero, List.setIfInBounds_toArray, List.set_cons_zero, List.set_cons_succ]
  refine wpAnyH_take (i := 26) (oi := _) (v := ?v26) rfl (by kernel_rfl) (by kernel_rfl) (by kernel_rfl) (fun _ _ _ h => h) (Or.inl ⟨by rfl, ?hy26⟩) (by assumption) ?rest26
  case hy26 => (intro w hSw; (try dsimp only at hSw); go_simp) <;> with_reducible rfl
  try simp only [Act.put, List.getElem_toArray, List.getElem_cons_succ, List.getElem_cons_zero, List.setIfInBounds_toArray, List.set_cons_zero, List.set_cons_succ]
  refine wpAnyH_take (i := 27) (oi := _) (v := ?v27) rfl (by kernel_rfl) (by kernel_rfl) (by kernel_rfl) (fun _ _ _ h => h) (Or.inl ⟨by rfl, ?hy27⟩) (by assumption) ?rest27
  case hy27 => (intro w hSw; (try dsimp only at hSw); go_simp) <;> with_reducible rfl
  try simp only [Act.put, List.getElem_toArray, List.getElem_cons_succ, List.getElem_cons_zero, List.setIfInBounds_toArray, List.set_cons_zero, List.set_cons_succ]
  refine wpAnyH_take (i := 28) (oi := _) (v := ?v28) rfl (by kernel_rfl) (by kernel_rfl) (by kernel_rfl) (fun _ _ _ h => h) (Or.inl ⟨by rfl, ?hy28⟩) (by assumption) ?rest28
  case hy28 => (intro w hSw; (try dsimp only at hSw); go_simp) <;> with_reducible rfl
  try simp only [Act.put, List.getElem_toArray, List.getElem_cons_succ, List.getElem_cons_zero, List.setIfInBounds_toArray, List.set_cons_zero, List.set_cons_succ]
  refine wpAnyH_take (i := 29) (oi := _) (v := ?v29) rfl (by kernel_rfl) (by kernel_rfl) (by kernel_rfl) (fun _ _ _ h => h) (Or.inl ⟨by rfl, ?hy29⟩) (by assumption) ?rest29
  case hy29 => (intro w hSw; (try dsimp only at hSw); go_simp) <;> with_reducible rfl
  try simp only [Act.put, List.getElem_toArray, List.getElem_cons_succ, List.getElem_cons_zero, List.setIfInBounds_toArray, List.set_cons_zero, List.set_cons_succ]
  refine wpAnyH_take (i := 30) (oi := _) (v := ?v30) rfl (by kernel_rfl) (by kernel_rfl) (by kernel_rfl) (fun _ _ _ h => h) (Or.inl ⟨by rfl, ?hy30⟩) (by assumption) ?rest30
  case hy30 => (intro w hSw; (try dsimp only at hSw); go_simp) <;> with_reducible rfl
  try simp only [Act.put, List.getElem_toArray, List.getElem_cons_succ, List.getElem_cons_zero, List.setIfInBounds_toArray, List.set_cons_zero, List.set_cons_succ]
  refine wpAnyH_take (i := 31) (oi := _) (v := ?v31) rfl (by kernel_rfl) (by kernel_rfl) (by kernel_rfl) (fun _ _ _ h => h) (Or.inl ⟨by rfl, ?hy31⟩) (by assumption) ?rest31
  case hy31 => (intro w hSw; (try dsimp only at hSw); go_simp) <;> with_reducible rfl
  try simp only [Act.put, List.getElem_toArray, List.getElem_cons_succ, List.getElem_cons_zero, List.setIfInBounds_toArray, List.set_cons_zero, List.set_cons_succ]
  refine wpAnyH_take (i := 32) (oi := _) (v := ?v32) rfl (by kernel_rfl) (by kernel_rfl) (by kernel_rfl) (fun _ _ _ h => h) (Or.inl ⟨by rfl, ?hy32⟩) (by assumption) ?rest32
  case hy32 => (intro w hSw; (try dsimp only at hSw); go_simp) <;> with_reducible rfl
  try simp only [Act.put, List.getElem_toArray, List.getElem_cons_succ, List.getElem_cons_zero, List.setIfInBounds_toArray, List.set_cons_zero, List.set_cons_succ]
  refine wpAnyH_take (i := 33) (oi := _) (v := ?v33) rfl (by kernel_rfl) (by kernel_rfl) (by kernel_rfl) (fun _ _ _ h => h) (Or.inl ⟨by rfl, ?hy33⟩) (by assumption) ?rest33
  case hy33 => (intro w hSw; (try dsimp only at hSw); go_simp) <;> with_reducible rfl
  try simp only [Act.put, List.getElem_toArray, List.getElem_cons_succ, List.getElem_cons_zero, List.setIfInBounds_toArray, List.set_cons_zero, List.set_cons_succ]
  refine wpAnyH_take (i := 34) (oi := _) (v := ?v34) rfl (by kernel_rfl) (by kernel_rfl) (by kernel_rfl) (fun _ _ _ h => h) (Or.inl ⟨by rfl, ?hy34⟩) (by assumption) ?rest34
  case hy34 => (intro w hSw; (try dsimp only at hSw); go_simp) <;> with_reducible rfl
  try simp only [Act.put, List.getElem_toArray, List.getElem_cons_succ, List.getElem_cons_zero, List.setIfInBounds_toArray, List.set_cons_zero, List.set_cons_succ]
  refine wpAnyH_take (i := 35) (oi := _) (v := .agg dl.toArray) rfl (by kernel_rfl) (by kernel_rfl) (by kernel_rfl) (fun _ _ _ h => h) (yieldsIf_load_mid (by rfl) 25 _ rfl w7.heap.size 0 rfl dl _ (fun w hSw => hSw.2.2.2.2.2.2.2.2) hu25 rfl hi25) (by assumption) ?_
  try simp only [Act.put, List.getElem_toArray, List.getElem_cons_succ, List.getElem_cons_zero, List.setIfInBounds_toArray, List.set_cons_zero, List.set_cons_succ]
  refine wpAnyH_take (i := 36) (oi := _) (v := ?v36) rfl (by kernel_rfl) (by kernel_rfl) (by kernel_rfl) (fun _ _ _ h => h) (Or.inl ⟨by rfl, ?hy36⟩) (by assumption) ?rest36
  case hy36 => (intro w hSw; (try dsimp only at hSw); go_simp) <;> with_reducible rfl
  try simp only [Act.put, List.getElem_toArray, List.getElem_cons_succ, List.getElem_cons_zero, List.setIfInBounds_toArray, List.set_cons_zero, List.set_cons_succ]
  refine wpAnyH_ready (rs := [37]) (by kernel_rfl) (by simp) ?_
  refine AllReadyH.cons (o := _) rfl (fun K hK => ?_) AllReadyH.nil
  go_simp
  refine hK.out _ _ ?_ (fun hHeld => ?_)
  · exact hS9
  clear hK K
  try simp only [Act.put, List.getElem_toArray, List.getElem_cons_succ, List.getElem_cons_zero, List.setIfInBounds_toArray, List.set_cons_zero, List.set_cons_succ]
  refine wpAnyH_ready (rs := [38]) (by kernel_rfl) (by simp) ?_
  refine AllReadyH.cons (o := _) rfl (fun K hK => ?_) AllReadyH.nil
  go_simp
  refine (sumf_is w9 ((HR.out.grown HG8.out (by simp)).grown HB9.out.2.2.1 (by simp)) (some ⟨w8.heap.size, 0, none⟩) 56 c9 (intsB text2.data.toList) rfl HB9.out.2.1 (fun ad e _ => by obtain rfl := Option.some.inj e; exact HB9.out.2.2.2) HB9.out.1 (by omega)).mono ?_
  rintro e w10 ⟨rfl, hk10⟩
  have hS10 := HS9.out w10 (grown_trans HB9.out.2.2.1 hk10)
  rw [← HDSF.out]
  go_wp2_with fail
  refine hK.out _ _ ?_ (fun hHeld => ?_)
  · exact hS10
  clear hK K
  try simp only [Act.put, List.getElem_toArray, List.getElem_cons_succ, List.getElem_cons_zero, List.setIfInBounds_toArray, List.set_cons_zero, List.set_cons_succ]
  refine wpAnyH_take (i := 39) (oi := _) (v := ?v39) rfl (by kernel_rfl) (by kernel_rfl) (by kernel_rfl) (fun _ _ _ h => h) (Or.inl ⟨by rfl, ?hy39⟩) (by assumption) ?rest39
  case hy39 => (intro w hSw; (try dsimp only at hSw); go_simp) <;> with_reducible rfl
  try simp only [Act.put, List.getElem_toArray, List.getElem_cons_succ, List.getElem_cons_zero, List.setIfInBounds_toArray, List.set_cons_zero, List.set_cons_succ]
  refine wpAnyH_take (i := 40) (oi := _) (v := ?v40) rfl (by kernel_rfl) (by kernel_rfl) (by kernel_rfl) (fun _ _ _ h => h) (Or.inl ⟨by rfl, ?hy40⟩) (by assumption) ?rest40
  case hy40 => (intro w hSw; (try dsimp only at hSw); go_simp) <;> with_reducible rfl
  try simp only [Act.put, List.getElem_toArray, List.getElem_cons_succ, List.getElem_cons_zero, List.setIfInBounds_toArray, List.set_cons_zero, List.set_cons_succ]
  refine wpAnyH_take (i := 41) (oi := _) (v := ?v41) rfl (by kernel_rfl) (by kernel_rfl) (by kernel_rfl) (fun _ _ _ h => h) (Or.inl ⟨by rfl, ?hy41⟩) (by assumption) ?rest41
  case hy41 => (intro w hSw; (try dsimp only at hSw); go_simp) <;> with_reducible rfl
  try simp only [Act.put, List.getElem_toArray, List.getElem_cons_succ, List.getElem_cons_zero, List.setIfInBounds_toArray, List.set_cons_zero, List.set_cons_succ]
  refine wpAnyH_done (by kernel_rfl) ?_ _
  go_wp2_with fail
  go_ret
  exact ⟨rfl, grown_trans (grown_trans HG8.out HB9.out.2.2.1) hk10⟩

theorem rem_is (a : Int) (n : Nat) (h : 0 < n) (h2 : n ≤ 1000) : ∃ q : Nat, wrap64 ((IntKind.u64.wrap a).tmod (n : Int)) = (q : Int) ∧ q < n := by
  have h0 : 0 ≤ IntKind.u64.wrap a := by rw [IntKind.wrap_u64]; omega
  rw [Int.tmod_eq_emod_of_nonneg h0]
  have h1 := Int.emod_nonneg (IntKind.u64.wrap a) (show (n : Int) ≠ 0 by omega)
  have h3 := Int.emod_lt_of_pos (IntKind.u64.wrap a) (show 0 < (n : Int) by omega)
  refine ⟨(IntKind.u64.wrap a % (n : Int)).toNat, ?_, by omega⟩
  rw [w64 _ ⟨by omega, by omega⟩]
  omega
theorem known_any (w : World) (hR : Rounds w) (a0 a1 : Int) : Calls Tryd.prog 7 #[.int .i64 a0, .int .i64 a1] w fun e w' => e = .returned (.bool true) ∧ w.grownBy w' none := by
  obtain ⟨k, hk, hk3⟩ := rem_is a0 3 (by omega) (by omega)
  have hcs : k = 0 ∨ k = 1 ∨ k = 2 := by omega
  rcases hcs with rfl | rfl | rfl
  · obtain ⟨q, hq, hqn⟩ := rem_is a1 1 (by omega) (by omega)
    exact known_0 w hR a0 a1 hk q hq (by omega)
  · obtain ⟨q, hq, hqn⟩ := rem_is a1 4 (by omega) (by omega)
    exact known_1 w hR a0 a1 hk q hq (by omega)
  · obtain ⟨q, hq, hqn⟩ := rem_is a1 57 (by omega) (by omega)
    exact known_2 w hR a0 a1 hk q hq (by omega)
end Go.Proofs.YtmikejlpldnokaaDoor
