/-
  Which digest is zero.
-/
import Derived.Test.YtmikejlpldnokaaDoorShOf
import Derived.Test.YtmikejlpldnokaaDoorShAlive
import Derived.Test.YtmikejlpldnokaaDoorShArg
import Derived.Test.YtmikejlpldnokaaDoorArrEq
import Derived.Deep.RegionHeld3
namespace Go.Proofs.YtmikejlpldnokaaDoor
open Go.RowKit

theorem eq16 (w : World) (l1 l2 : List Int) (h1 : l1.length = 16) (h2 : l2.length = 16) : Sem.run Tryd.prog (Op.equalIn 10000 33 (.agg (arrV .u8 l1)) (.agg (arrV .u8 l2))) w = .ok (decide (l1 = l2)) w :=
  eq_arr w 9998 Tryd.underlying33 (by kernel_rfl) Tryd.underlying5 (by kernel_rfl) (by kernel_rfl) l1 l2 h1 h2
theorem zeroDigest (w : World) : Sem.run Tryd.prog (zeroValue 33) w = .ok (.agg (arrV .u8 (List.replicate 16 0))) w :=
  zero_run w (by kernel_rfl)
theorem info16 : (Tryd.prog.info? 33).map (·.size) = some 16 := by kernel_rfl
theorem index16 (w : World) {I : Int} {cs : Array Value} {v : Value} (hb : 0 ≤ I ∧ I < 16) (hv : cs[I.toNat]? = some v) : Sem.run Tryd.prog (Instr.index 33 (.agg cs) (.int .i64 I)) w = .ok v w :=
  run_index_agg (n := 16) Tryd.underlying33 (by kernel_rfl) (by kernel_rfl) hb hv

set_option maxRecDepth 100000 in
set_option maxHeartbeats 1000000 in
theorem zero_is (w : World) (l : List Int) (hl : l.length = 16) : Calls Tryd.prog 19 #[.agg (arrV .u8 l)] w fun e w' => e = .returned (.bool (decide (l = List.replicate 16 0))) ∧ w.grownBy w' none := by
  obtain ⟨b, hb⟩ : ∃ b, b = decide (l = List.replicate 16 0) := ⟨_, rfl⟩
  obtain ⟨ds, hds⟩ : ∃ ds, ds = arrV .u8 l := ⟨_, rfl⟩
  obtain ⟨zs, hzs⟩ : ∃ zs, zs = arrV .u8 (List.replicate 16 0) := ⟨_, rfl⟩
  have hz : ∀ w, Sem.run Tryd.prog (zeroValue 33) w = .ok (.agg zs) w := fun w => by rw [hzs]; exact zeroDigest w
  have heq : ∀ w, Sem.run Tryd.prog (Op.equalIn 10000 33 (.agg ds) (.agg zs)) w = .ok b w := fun w => by rw [hds, hzs, hb]; exact eq16 w l _ hl (by simp)
  have hsz : ds.size = 16 := by rw [hds, arr_size, hl]
  have HI := Lib.hid (show (Tryd.prog.info? 33).map (·.size) = some ds.size by rw [hsz]; exact info16)
  rw [← hb, ← hds]
  clear hb hds hzs hl hsz
  go_enter Tryd.func19, Tryd.ntmps19
  go_wp2_with (refine wpList_load_row rfl 33 _ rfl w.heap.size rfl 33 ds (0, 0) _ (heap_alloc_new w _) Tryd.underlying33 rfl HI.out ?_)
  go_ret
  exact ⟨rfl, World.grownBy_alloc w _ none⟩

theorem over_mem : ∀ (y bs : List Int) (a : Nat) (z : Int), z ∈ over bs a y → z ∈ bs ∨ z ∈ y
  | [], bs, a, z, h => .inl h
  | x :: y, bs, a, z, h => by
    rcases over_mem y (bs.set a x) (a + 1) z h with h | h
    · rcases List.mem_or_eq_of_mem_set h with h | h
      · exact .inl h
      · exact .inr (by simp [h])
    · exact .inr (by simp [h])
theorem sumW_byte (ws : List Int) : ∀ (k : Nat) (z : Int), z ∈ sumW ws k → 0 ≤ z ∧ z < 256
  | 0, z, h => by
    have : z = 0 := by simpa [sumW] using List.eq_of_mem_replicate h
    omega
  | k + 1, z, h => by
    rcases over_mem _ _ _ z h with h | h
    · exact sumW_byte ws k z h
    · simp only [wordB, List.mem_cons, List.not_mem_nil, or_false] at h
      omega
theorem bytes_of (l : List Int) (h : ∀ z ∈ l, 0 ≤ z ∧ z < 256) : ∃ b : List UInt8, intsB b = l := by
  refine ⟨l.map fun z => UInt8.ofNat z.toNat, ?_⟩
  rw [intsB, List.map_map]
  conv => rhs; rw [← List.map_id l]
  apply List.map_congr_left
  intro z hz
  have := h z hz
  simp
  omega

def zeroK (l : List Int) (k : Nat) : Bool := (l.take k).all (· == 0)
theorem zeroK_succ (l : List Int) (k : Nat) (h : k < l.length) : zeroK l (k + 1) = (zeroK l k && (l.getD k 0 == 0)) := by
  rw [zeroK, take_push' l k 0 h, List.all_append]; simp [zeroK]
theorem zeroK_all (l : List Int) (h : l.length = 16) : zeroK l 16 = decide (l = List.replicate 16 0) := by
  rw [zeroK, List.take_of_length_le (by omega), Bool.eq_iff_iff, List.all_eq_true, decide_eq_true_iff, List.eq_replicate_iff]
  simp [h]
theorem whole_is (a0 : Int) (x : List Int) (h : x.length ≤ 500) : ofS a0 [x] = (hashS ([a0 % 256, (x.length : Int) / 16777216 % 256, (x.length : Int) / 65536 % 256, (x.length : Int) / 256 % 256, (x.length : Int) % 256] ++ x)).take 16 := by
  have e : framedS a0 [x] = writeS startS ([a0 % 256, (x.length : Int) / 16777216 % 256, (x.length : Int) / 65536 % 256, (x.length : Int) / 256 % 256, (x.length : Int) % 256] ++ x) := by
    rw [writeS_append]
    have hm : (x.length : Int) % 4294967296 = (x.length : Int) := by omega
    show partS (writeS startS [a0 % 256]) x = _
    rw [partS, hm]
    rfl
  rw [ofS, e, hashS]

theorem byteCells_ints (l : List UInt8) : Lib.byteCells l = (intsB l).map (Value.int .u8) := by simp [Lib.byteCells, intsB]
theorem own_bytes {w : World} {base : Nat} {e : TypeId} {A : Option Addr} {n cap : Nat} {L : List Int} (h : w.ownsRow base e 1 (.slice A n cap) n (L.map (Value.int .u8))) : BytesI w A L ∧ n ≤ cap ∧ L.length = n := by
  have hl : L.length = n := by have := h.1; simpa using this
  rcases h.2 with ⟨h', h0⟩ | ⟨g, cap', cur, h', hb, hg, hnc, _, hsz, htake⟩
  · injection h' with h1 h2 h3
    subst h1 h2 h3
    exact ⟨fun hne => absurd (List.eq_nil_of_length_eq_zero hl) hne, Nat.le_refl _, hl⟩
  · injection h' with h1 h2 h3
    subst h1 h3
    refine ⟨fun _ => ⟨_, rfl, fun j hj => ?_⟩, hnc, hl⟩
    rw [add_none, Nat.zero_add, Joins.cell_of_block hg j, ← Array.getElem?_toList]
    have e1 : (cur.toList.take (n * 1))[j]? = cur.toList[j]? := by rw [List.getElem?_take, if_pos (by omega)]
    rw [← e1, htake]
    simp [List.getD, List.getElem?_eq_getElem hj]
theorem string_run (w : World) (b cap : Nat) (l : List UInt8) (n : Nat) (hn : l.length = n) (hr : w.rangeAt b 0 ((intsB l).map (Value.int .u8))) : Sem.run Tryd.prog (convert 22 9 (.slice (some ⟨b, 0, none⟩) n cap)) w = .ok (.string ⟨l.toArray⟩) w := by
  subst hn
  exact run_convert_bytes_back w 22 9 5 ⟨b, 0, none⟩ cap l Tryd.underlying22 Tryd.underlying5 Tryd.underlying9 (fun j hj => by
    rw [add_none]
    exact hr j _ (by simp [intsB, List.getElem?_eq_getElem hj]))

set_option maxRecDepth 100000 in
set_option maxHeartbeats 2000000 in
theorem zero_any (w : World) (hR : Rounds w) (l : List Int) (hl : l.length = 16) (a0 : Int) (A : Option Addr) (m c : Nat) (xb : List UInt8) (hm : xb.length = m) (hx : BytesAt w A xb) (hc : m ≤ c) :
    Calls Tryd.prog 6 #[.agg (arrV .u8 l), .int .i64 a0, .slice A m c] w fun e w' => e = .returned (.bool true) ∧ w.grownBy w' none := by
  subst hm
  obtain ⟨ds, hds⟩ : ∃ ds, ds = arrV .u8 l := ⟨_, rfl⟩
  have hsz : ds.size = 16 := by rw [hds, arr_size, hl]
  have HI := Lib.hid (show (Tryd.prog.info? 33).map (·.size) = some ds.size by rw [hsz]; exact info16)
  have HD := Lib.hid (And.intro hds (And.intro hl hsz))
  have HX := Lib.hid (And.intro hx hc)
  have HR := Lib.hid hR
  rw [← hds]
  clear hds hl hsz hx hc hR
  go_enter Tryd.func6, Tryd.ntmps6
  go_wp2_with fail
  have HB0 := Lib.hid (Blk.new w 33 ds)
  have HG0 := Lib.hid (World.grownBy_alloc w (.cells ds 33) none)
  generalize w.alloc (.cells ds 33) = w0 at *
  refine (alive_is w0 (HR.out.grown HG0.out (by simp))).mono ?_
  rintro e w1 ⟨rfl, hk1⟩
  have HB1 := Lib.hid (HB0.out.grown hk1 (by simp))
  have HG1 := Lib.hid (grown_trans HG0.out hk1)
  clear hk1 HB0 HG0
  by_cases hbig : 500 < xb.length
  · have d1 : decide (500 < (xb.length : Int)) = true := by simp; omega
    go_wp2_with fail
    go_ret
    exact ⟨rfl, HG1.out⟩
  · have d1 : decide (500 < (xb.length : Int)) = false := by simp; omega
    have HM := Lib.hid hbig
    clear hbig
    go_wp2_with (refine wpList_load_row rfl 33 _ rfl w.heap.size rfl 33 ds (0, 0) _ HB1.out Tryd.underlying33 rfl HI.out ?_)
    go_loop [19, 7] (fun i z => ∃ k : Nat, k ≤ 16 ∧ i = .int .i64 (k : Int) ∧ z = .bool (zeroK l k)) (fun i _ => 16 - (intOf i).toNat)
    case atStart => exact ⟨0, by omega, rfl, rfl⟩
    case round =>
      obtain ⟨k, hk, hi, hz⟩ := hrel
      obtain ⟨I, hI⟩ : ∃ I : Int, I = (k : Int) := ⟨_, rfl⟩
      rw [← hI] at hi
      obtain ⟨b, hb⟩ : ∃ b, b = zeroK l k := ⟨_, rfl⟩
      rw [← hb] at hz
      subst hi hz
      by_cases hlt : k < 16
      · have d2 : decide (I < 16) = true := by simp; omega
        obtain ⟨y, hy⟩ : ∃ y, y = l.getD k 0 := ⟨_, rfl⟩
        have hkI : I.toNat = k := by omega
        have kx := index16 w1 (I := I) (cs := ds) (v := .int .u8 y) ⟨by omega, by omega⟩ (by rw [HD.out.1, hkI, hy]; exact arr_get (by rw [HD.out.2.1]; exact hlt))
        have hs := zeroK_succ l k (by rw [HD.out.2.1]; exact hlt)
        rw [← hb, ← hy] at hs
        have HK := Lib.hid (And.intro hI (And.intro hlt hs))
        clear hI hlt hs hkI hb hy hk
        cases b
        · go_wp2_with fail
          go_round
          case rel => obtain ⟨hI, hlt, hs⟩ := HK.out; exact ⟨k + 1, by omega, by rw [hI, w64 _ ⟨by omega, by omega⟩]; rfl, by rw [hs]; rfl⟩
          case measure => obtain ⟨hI, hlt, hs⟩ := HK.out; simp only [intOf]; rw [w64 _ ⟨by omega, by omega⟩]; omega
        · go_wp2_with fail
          go_round
          case rel => obtain ⟨hI, hlt, hs⟩ := HK.out; exact ⟨k + 1, by omega, by rw [hI, w64 _ ⟨by omega, by omega⟩]; rfl, by rw [hs, Bool.true_and]⟩
          case measure => obtain ⟨hI, hlt, hs⟩ := HK.out; simp only [intOf]; rw [w64 _ ⟨by omega, by omega⟩]; omega
      · have d2 : decide (I < 16) = false := by simp; omega
        obtain rfl : k = 16 := by omega
        rw [zeroK_all l HD.out.2.1] at hb
        have HBZ := Lib.hid hb
        clear hI hlt hb hk
        obtain ⟨i0, hi0, hz0, hz1, hz2⟩ := info_parts u8_info
        have hown := World.ownsRow_lit (base := 0) (e := 5) (size := 1) w1 #[.int .u8 (a0 % 256), .int .u8 ((xb.length : Int) / 16777216 % 256), .int .u8 ((xb.length : Int) / 65536 % 256), .int .u8 ((xb.length : Int) / 256 % 256), .int .u8 ((xb.length : Int) % 256)] 5 (Nat.zero_le _) (by decide) rfl
        have HOWN := Lib.hid hown
        have HI0 := Lib.hid (And.intro hi0 (And.intro hz0 (And.intro hz1 hz2)))
        clear hown hi0 hz0 hz1 hz2
        go_wp2_with (at_builtin; refine wpList_append_bytes _ rfl _ _ 22 rfl 0 5 i0 (.int .u8 0) Tryd.underlying22 HI0.out.1 HI0.out.2.1 HI0.out.2.2.1 HI0.out.2.2.2 rfl _ _ _ rfl HOWN.out A c xb rfl (HX.out.1.grown (grown_trans HG1.out (World.grownBy_alloc w1 _ none)) (by simp)) (by have := HM.out; omega) (Nat.zero_le _) ?_)
        intro A' cap' w3 hown3 hgrow hat
        clear hat
        have hg3 := grown_trans HG1.out (grown_new hgrow)
        obtain ⟨F, hF⟩ : ∃ F : List Int, F = [a0 % 256, (xb.length : Int) / 16777216 % 256, (xb.length : Int) / 65536 % 256, (xb.length : Int) / 256 % 256, (xb.length : Int) % 256] ++ intsB xb := ⟨_, rfl⟩
        have hob := own_bytes (L := F) (show w3.ownsRow 0 5 1 (.slice A' (5 + xb.length) cap') (5 + xb.length) (F.map (Value.int .u8)) by
          rw [hF, List.map_append, ← byteCells_ints]; exact hown3)
        have hwhole : ofS a0 [intsB xb] = (hashS F).take 16 := by
          have := whole_is a0 (intsB xb) (by rw [intsB_length]; have := HM.out; omega)
          rw [this, intsB_length, hF]
        have HOB := Lib.hid hob
        have HWH := Lib.hid hwhole
        have HB3 := Lib.hid (HB1.out.grown (grown_new hgrow) (by simp))
        have HG3 := Lib.hid hg3
        clear hown3 hgrow hg3 hob hwhole hF HOWN HI0
        go_wp2_with fail
        refine (sumf_is w3 (HR.out.grown HG3.out (by simp)) A' (5 + xb.length) cap' F HOB.out.2.2 HOB.out.1 HOB.out.1.lt HOB.out.2.1 (by have := HM.out; omega)).mono ?_
        rintro e w4 ⟨rfl, hk4⟩
        obtain ⟨ws, hws⟩ : ∃ ws, ws = arrV .u8 (hashS F) := ⟨_, rfl⟩
        rw [← hws]
        have hwsz : ws.size = 32 := by rw [hws, arr_size, hashS_length]
        have HI4 := Lib.hid (show (Tryd.prog.info? 25).map (·.size) = some ws.size by rw [hwsz]; exact info32)
        have HS4 := Lib.hid (And.intro hwsz (And.intro (show (ws.all fun x => x.oneCell') = true by rw [hws]; exact arr_one _ _) hws))
        have HB4 := Lib.hid (HB3.out.grown hk4 (by simp))
        have HG4 := Lib.hid (grown_trans HG3.out hk4)
        clear hwsz hws hk4 HB3 HG3
        go_wp2_with (refine wpList_store_row rfl 25 _ _ rfl w4.heap.size ws rfl rfl 25 _ (heap_alloc_new w4 _) HI4.out (by rw [HS4.out.1]; simp) HS4.out.2.1 ?_)
        rw [← z32b]
        have hW5 := Blk.row (Blk.new w4 25 (arrV .u8 (List.replicate 32 0))) ws
        have hB5 := Blk.farRow (HB4.out.alloc (.cells (arrV .u8 (List.replicate 32 0)) 25)) (Nat.ne_of_lt HB4.out.lt) ws
        have hG5 := grown_row (grown_trans HG4.out (World.grownBy_alloc w4 (.cells (arrV .u8 (List.replicate 32 0)) 25) none)) (g := w4.heap.size) (.inl HG4.out.size) ws
        have hs5 : ((w4.alloc (.cells (arrV .u8 (List.replicate 32 0)) 25)).setRow w4.heap.size ws).heap.size = w4.heap.size + 1 := by rw [setRow_size, World.size_alloc]
        generalize (w4.alloc (.cells (arrV .u8 (List.replicate 32 0)) 25)).setRow w4.heap.size ws = w5 at *
        rw [← hs5]
        have hP6 := Blk.new w5 22 #[.slice A xb.length c]
        have hk6 := World.grownBy_alloc w5 (.cells #[.slice A xb.length c] 22) none
        generalize w5.alloc (.cells #[.slice A xb.length c] 22) = w6 at *
        have hG6 := grown_trans hG5 hk6
        have HW6 := Lib.hid (hW5.grown hk6 (by simp))
        have HB6 := Lib.hid (hB5.grown hk6 (by simp))
        have HG6 := Lib.hid hG6
        refine (of_is w6 (HR.out.grown hG6 (by simp)) a0 (some ⟨w5.heap.size, 0, none⟩) 1 1 [intsB xb] rfl (fun j hj => by
            have : j = 0 := by simp at hj; omega
            subst this
            exact ⟨_, A, xb.length, c, rfl, by rw [add_none, hP6.cell]; rfl, by simp [intsB_length], HX.out.2, by
              have := BytesI.of (HX.out.1.grown hG6 (by simp))
              simpa using this⟩) (by omega) (fun p hp => by
            have : p = intsB xb := by simpa using hp
            rw [this, intsB_length]; have := HM.out; omega)).mono ?_
        rintro e w7 ⟨rfl, hk7⟩
        obtain ⟨o16, ho16⟩ : ∃ o16, o16 = arrV .u8 (ofS a0 [intsB xb]) := ⟨_, rfl⟩
        rw [← ho16]
        have hosz : o16.size = 16 := by rw [ho16, arr_size, ofS_length]
        have HI7 := Lib.hid (show (Tryd.prog.info? 33).map (·.size) = some o16.size by rw [hosz]; exact info16)
        have HS7 := Lib.hid (And.intro hosz (And.intro (show (o16.all fun x => x.oneCell') = true by rw [ho16]; exact arr_one _ _) ho16))
        have HW7 := Lib.hid (HW6.out.grown hk7 (by simp))
        have HB7 := Lib.hid (HB6.out.grown hk7 (by simp))
        have HG7 := Lib.hid (grown_trans HG6.out hk7)
        clear hosz ho16 hk7 hP6 hk6 hG6 hW5 hB5 hG5 hs5 HB4 HG4 HI4
        go_wp2_with (refine wpList_store_row rfl 33 _ _ rfl w7.heap.size o16 rfl rfl 33 _ (heap_alloc_new w7 _) HI7.out (by rw [HS7.out.1]; simp) HS7.out.2.1 ?_)
        rw [← z16b]
        have HO8 := Lib.hid (Blk.row (Blk.new w7 33 (arrV .u8 (List.replicate 16 0))) o16)
        have HW8 := Lib.hid (Blk.farRow (HW7.out.alloc (.cells (arrV .u8 (List.replicate 16 0)) 33)) (Nat.ne_of_lt HW7.out.lt) o16)
        have HB8 := Lib.hid (Blk.farRow (HB7.out.alloc (.cells (arrV .u8 (List.replicate 16 0)) 33)) (Nat.ne_of_lt HB7.out.lt) o16)
        have HG8 := Lib.hid (grown_row (grown_trans HG7.out (World.grownBy_alloc w7 (.cells (arrV .u8 (List.replicate 16 0)) 33) none)) (g := w7.heap.size) (.inl HG7.out.size) o16)
        generalize (w7.alloc (.cells (arrV .u8 (List.replicate 16 0)) 33)).setRow w7.heap.size o16 = w8 at *
        clear HW7 HB7 HG7 HI7
        obtain ⟨bl, hbl⟩ := bytes_of (ofS a0 [intsB xb]) (fun z hz => sumW_byte _ _ z (List.mem_of_mem_take hz))
        have hbll : bl.length = 16 := by rw [← intsB_length, hbl, ofS_length]
        obtain ⟨S, hS⟩ : ∃ S : ByteArray, S = ⟨bl.toArray⟩ := ⟨_, rfl⟩
        obtain ⟨dl, hdl⟩ : ∃ dl, dl = ds.toList := ⟨_, rfl⟩
        have HDL := Lib.hid hdl
        have hkeep : ∀ W, w8.grownBy W none → W.rangeAt w.heap.size 0 dl ∧ Sem.run Tryd.prog (convert 22 9 (.slice (some ⟨w7.heap.size, 0, none⟩) 16 16)) W = .ok (.string S) W ∧ Sem.run Tryd.prog (convert 22 9 (.slice (some ⟨w4.heap.size, 0, none⟩) 16 32)) W = .ok (.string S) W := fun W hW => by
          have hB := HB8.out.grown hW (by simp)
          have hO := HO8.out.grown hW (by simp)
          have hWw := HW8.out.grown hW (by simp)
          refine ⟨fun j v hv => ?_, ?_, ?_⟩
          · rw [Nat.zero_add, hB.cell, ← Array.getElem?_toList, ← HDL.out]; exact hv
          · rw [hS]
            refine string_run W w7.heap.size 16 bl 16 hbll (fun j v hv => ?_)
            rw [Nat.zero_add, hO.cell, HS7.out.2.2, ← Array.getElem?_toList, ← hbl]; exact hv
          · rw [hS]
            refine string_run W w4.heap.size 32 bl 16 hbll (fun j v hv => ?_)
            rw [hbl, HWH.out] at hv
            have hj : j < 16 := by
              have := (List.getElem?_eq_some_iff.1 hv).1
              simp [hashS_length] at this
              omega
            rw [Nat.zero_add, hWw.cell, HS4.out.2.2, ← Array.getElem?_toList]
            simp only [List.getElem?_map, List.getElem?_take, if_pos hj] at hv ⊢
            exact hv
        have hS8 := hkeep w8.drew (grown_drew (World.grownBy.refl w8 none))
        have HK := Lib.hid hkeep
        have hu33 := Tryd.underlying33
        have hi33 : (Tryd.prog.info? 33).map (·.size) = some dl.length := by rw [HDL.out, Array.length_toList, HD.out.2.2]; exact info16
        have hdla : (Array.mk dl) = ds := by rw [HDL.out]
        have hsa : ∀ w b, Sem.run Tryd.prog (Instr.sliceAt 33 (.pointer (some ⟨b, 0, none⟩)) none none none) w = .ok (.slice (some ⟨b, 0, none⟩) 16 16) w := fun w b => slice_all (P := Tryd.prog) (w := w) (b := b) (o := 0) (t := 33) Tryd.underlying33 (by kernel_rfl)
        have hst : ∀ w b, Sem.run Tryd.prog (Instr.sliceAt 25 (.pointer (some ⟨b, 0, none⟩)) none (some (.int .i64 16)) none) w = .ok (.slice (some ⟨b, 0, none⟩) 16 32) w := fun w b =>
          slice_to (P := Tryd.prog) (w := w) (b := b) (o := 0) (q := 16) (t := 25) Tryd.underlying25 (by kernel_rfl) (by omega)
        clear hkeep hbl hbll hS hdl
        go_region_held3 (fun W => W.rangeAt w.heap.size 0 dl ∧ Sem.run Tryd.prog (convert 22 9 (.slice (some ⟨w7.heap.size, 0, none⟩) 16 16)) W = .ok (.string S) W ∧ Sem.run Tryd.prog (convert 22 9 (.slice (some ⟨w4.heap.size, 0, none⟩) 16 32)) W = .ok (.string S) W) (assumption)
          ((go_at_call 19; rw [HD.out.1]; refine (zero_is _ l HD.out.2.1).mono ?_; rintro e w10 ⟨rfl, hk10⟩; have hS10 := HK.out w10 (grown_trans (grown_drew (World.grownBy.refl w8 none)) hk10); rw [← HBZ.out]))
        go_wp2_with fail
        go_ret
        exact ⟨rfl, grown_trans HG8.out (grown_trans (grown_drew (World.grownBy.refl w8 none)) hk10)⟩
end Go.Proofs.YtmikejlpldnokaaDoor
