/-
  Slots: Slot.
-/
import Derived.Test.YthkjlgjbjjjohaaGreatDoorSlA
namespace Go.Proofs.YthkjlgjbjjjohaaGreatDoor
open Go.RowKit Go.Maps

theorem arr_ok (L : List Int) (h : L.length = 64) : (arrV .u8 L).size = 64 ∧ (arrV .u8 L).all (·.oneCell') = true := by
  exact ⟨by simp [arrV, h], by simp [arrV, Array.all_eq_true_iff_forall_mem, Value.oneCell']⟩
theorem zero64 : arrV .u8 (List.replicate 64 0) = (zeroR.map (Value.int .u8)).toArray := rfl
theorem zero16 (w : World) : Sem.run Tryz.prog (zeroValue 23) w = .ok (.agg (arrV .u8 (List.replicate 16 0))) w := zero_sec w (by kernel_rfl)
theorem Rounds.kept {w w' : World} {F : Nat → Prop} (h : Rounds w) (hk : Kept F w w') (hF : ∀ j, F j → w.heap.size ≤ j) : Rounds w' := ⟨h.choose, h.choose_spec.kept hk (fun e => by have := hF _ e; have := h.lt; omega)⟩
theorem BytesAt.low {w w' : World} {F : Nat → Prop} {A : Option Addr} {l : List UInt8} (h : BytesAt w A l) (hk : Kept F w w') (hF : ∀ k, F k → w.heap.size ≤ k) : BytesAt w' A l := h.kept' hk (fun ad e hne hf => by
  obtain ⟨ad', e', hc⟩ := h hne
  rw [e] at e'
  injection e' with e'
  subst e'
  have := World.block_lt_of_cell? w _ (hc 0 (List.length_pos_iff.2 hne))
  rw [block_add] at this
  have := hF _ hf
  omega)
theorem ints_append (a b : List UInt8) : intsB (a ++ b) = intsB a ++ intsB b := by simp [intsB]
theorem be_oneS7 {m : Nat} (h : m ≤ 31) : intsB (be 1 m) = [(m : Int)] := by
  have : (UInt8.ofNat m).toNat = m := by simp; omega
  simp [intsB, be, this]
/-- The array behind the first copy, the second, the third. -/
theorem lay_one (hd : List UInt8) (h : hd.length = 9) : (List.replicate 64 (0 : Int)).take 0 ++ ((intsB hd).take (min 9 64) ++ (List.replicate 64 (0 : Int)).drop (0 + min 9 64)) = intsB hd ++ List.replicate 55 0 := by
  rw [List.take_zero, List.nil_append, show min 9 64 = 9 by rfl, List.take_of_length_le (l := intsB hd) (by simp [intsB, h]), List.drop_replicate]
theorem lay_two (K : Nat) (l : List UInt8) (M : Nat) (hM : min l.length 31 = M) : (intsB ([] ++ be 8 K ++ be 1 M) ++ List.replicate 55 (0 : Int)).take 9 ++ ((intsB l).take M ++ (intsB ([] ++ be 8 K ++ be 1 M) ++ List.replicate 55 (0 : Int)).drop (9 + M)) = headL K l ++ List.replicate 24 0 := by
  have hl : (intsB ([] ++ be 8 K ++ be 1 M)).length = 9 := by simp [intsB, be_length]
  have h31 : M ≤ 31 := by omega
  rw [List.take_append_of_le_length (by omega), List.take_of_length_le (by omega), List.drop_append, List.drop_of_length_le (by omega), hl, List.nil_append, show 9 + M - 9 = M by omega, List.drop_replicate]
  rw [List.nil_append, ints_append, be_oneS7 h31, headL, hM]
  have e1 : intsB (l.take 31) = (intsB l).take M := by
    rw [intsB, List.map_take, ← intsB]
    by_cases h : l.length ≤ 31
    · rw [List.take_of_length_le (by rw [intsB_length]; omega), List.take_of_length_le (by rw [intsB_length]; omega)]
    · rw [show M = 31 by omega]
  rw [e1, show 55 - M = (31 - l.length) + 24 by omega, ← List.replicate_append_replicate]
  simp
theorem lay_three (K : Nat) (l : List UInt8) : (headL K l ++ List.replicate 24 (0 : Int)).take 40 ++ ((ofS 5 [headL K l]).take (min 16 24) ++ (headL K l ++ List.replicate 24 (0 : Int)).drop (40 + min 16 24)) = slotL K l := by
  rw [List.take_append_of_le_length (by rw [headL_len]; omega), List.take_of_length_le (by rw [headL_len]; omega), List.take_of_length_le (by rw [ofS_length]; omega), List.drop_append, List.drop_of_length_le (by rw [headL_len]; omega), headL_len, List.drop_replicate]
  simp [slotL]
set_option maxRecDepth 100000 in
set_option maxHeartbeats 1000000 in
theorem slot_is (w : World) (hR : Rounds w) (k : Int) (hk : k < 9223372036854775808) (A : Option Addr) (n c : Nat) (l : List UInt8) (hn : l.length = n) (hl : BytesAt w A l) (hn2 : n ≤ 1000000) :
    Calls Tryz.prog 43 #[.int .i64 k, .slice A n c] w fun e w' => e = .returned (secV (slotL k.toNat l)) ∧ w.grownBy w' none := by
  obtain ⟨zs, hzs⟩ : ∃ zs : Array Value, zs = arrV .u8 (List.replicate 64 0) := ⟨_, rfl⟩
  have hz : ∀ w, Sem.run Tryz.prog (zeroValue 105) w = .ok (.agg zs) w := fun w => by rw [hzs, zero64]; exact zero_sec w (by kernel_rfl)
  obtain ⟨K, hK⟩ : ∃ K : Nat, k.toNat = K := ⟨_, rfl⟩
  have hK63 : K < 9223372036854775808 := by omega
  have HX := Lib.hid (And.intro hR (And.intro hn (And.intro hl (And.intro hzs hK))))
  rw [hK]
  clear hR hn hl hzs
  refine (callsIn_wide (n := 9)).1 ?_
  refine callsIn_of_wp Tryz.func43 rfl trivial ?_ rfl
  simp only [Tryz.ntmps43, List.size_toArray, List.length_cons, List.length_nil, Nat.reduceAdd, Nat.reduceSub, Array.replicate_succ, Array.replicate_zero, List.push_toArray, List.append_toArray, List.nil_append, List.cons_append]
  gi_wp2
  obtain ⟨b4, hb4⟩ : ∃ b4, w.heap.size = b4 := ⟨_, rfl⟩
  obtain ⟨w2, hw2⟩ : ∃ w2, (w.alloc (.cells zs 105)).alloc (.cells zs 105) = w2 := ⟨_, rfl⟩
  have g2 : w.grownBy w2 none := by rw [← hw2]; exact grown_trans (World.grownBy_alloc _ _ none) (World.grownBy_alloc _ _ none)
  have B4 : Blk w2 b4 105 zs := by rw [← hw2, ← hb4]; exact (Blk.new w _ _).alloc _
  have B5 : Blk w2 (b4 + 1) 105 (arrV .u8 (List.replicate 64 0)) := by
    have h := Blk.new (w.alloc (.cells zs 105)) 105 zs
    rw [World.size_alloc, hw2, hb4] at h
    rw [← HX.out.2.2.2.1]; exact h
  have H2 := Lib.hid (And.intro (Kept.of_grown (F := fun j => b4 ≤ j) g2 (fun _ e => by cases e)) (And.intro B4 (And.intro B5 hb4)))
  clear g2 B4 B5
  rw [hw2, hb4]
  clear hw2 hb4
  refine ⟨trivial, ?_⟩
  refine (callsIn_wide.2 (new_ok w2)).mono ?_
  rintro e w3 ⟨rfl, hw3⟩
  have g3 : w2.grownBy w3 none := by rw [hw3]; exact World.grownBy_alloc _ _ none
  obtain ⟨g, hg⟩ : ∃ g, w2.heap.size = g := ⟨_, rfl⟩
  rw [hg]
  have W3 : WrIs w3 (fun j => g ≤ j) g .nilIface [] := by rw [hw3, ← hg]; exact WrIs.new w2 (Nat.le_refl _)
  have k3 : Kept (fun j => b4 ≤ j) w w3 := H2.out.1.next (Kept.of_grown (F := fun _ => False) g3 fun _ e => by cases e) (fun _ _ h => h.elim)
  have H3 := Lib.hid (And.intro k3 (And.intro (H2.out.2.1.grown g3 (by simp)) (And.intro (H2.out.2.2.1.grown g3 (by simp)) (And.intro W3 (And.intro (show b4 + 1 < g by rw [← hg]; exact H2.out.2.2.1.lt) (show g < w3.heap.size by rw [hw3, ← hg]; simp))))))
  clear g3 W3 hw3 hg k3
  gi_wp2
  rw [show max k 0 = (K : Int) by omega]
  refine ⟨trivial, ?_⟩
  refine (callsIn_wide.2 (number_ok w3 (fun j => g ≤ j) g [] K 8 H3.out.2.2.2.1 (by omega) (by omega) (by omega) (by simp))).mono ?_
  rintro e w4 ⟨rfl, W4, k4⟩
  have H4 := Lib.hid (And.intro W4 (And.intro (H3.out.1.next k4 (fun j _ h => by have := H3.out.2.2.2.2.1; have h : g ≤ j := h; show b4 ≤ j; omega)) (And.intro (H3.out.2.1.kept k4 (by have := H3.out.2.2.2.2.1; omega)) (H3.out.2.2.1.kept k4 (by have := H3.out.2.2.2.2.1; omega)))))
  clear W4 k4
  gi_wp2
  rw [show min (n : Int) 31 = ((min n 31 : Nat) : Int) by omega]
  obtain ⟨M, hM⟩ : ∃ M : Nat, min n 31 = M := ⟨_, rfl⟩
  rw [hM]
  have HM := Lib.hid hM
  have hM31 : M ≤ 31 := by omega
  clear hM
  refine ⟨trivial, ?_⟩
  refine (callsIn_wide.2 (number_ok w4 _ g _ M 1 H4.out.1 (by omega) (by omega) (by omega) (by simp [be_length]))).mono ?_
  rintro e w5 ⟨rfl, W5, k5⟩
  have HF : ∀ j, upTo (fun j => g ≤ j) w3.heap.size w4.heap.size j → g ≤ j := by
    rintro j (h | ⟨h, _⟩)
    · exact h
    · have := H3.out.2.2.2.2.2
      omega
  have H5 := Lib.hid (And.intro W5 (And.intro (H4.out.2.1.next k5 (fun j _ h => by have := HF _ h; have := H3.out.2.2.2.2.1; show b4 ≤ j; omega)) (And.intro (H4.out.2.2.1.kept k5 (fun h => by have := HF _ h; have := H3.out.2.2.2.2.1; omega)) (H4.out.2.2.2.kept k5 (fun h => by have := HF _ h; have := H3.out.2.2.2.2.1; omega)))))
  clear W5 k5 HF
  gi_wp2
  refine ⟨trivial, ?_⟩
  refine (callsIn_wide.2 (done_ok w5 _ g _ H5.out.1 (by simp [be_length]))).mono ?_
  rintro e w6 ⟨A6, c6, rfl, hown, g6⟩
  obtain ⟨hd, hhd⟩ : ∃ hd, [] ++ be 8 K ++ be 1 M = hd := ⟨_, rfl⟩
  have hhl : hd.length = 9 := by rw [← hhd]; simp [be_length]
  rw [hhd, hhl] at hown
  rw [hhd, hhl]
  have hb6 := own_bytesAt hown
  have k6 : Kept (fun j => b4 ≤ j) w w6 := H5.out.2.1.next (Kept.of_grown (F := fun _ => False) g6 fun _ e => by cases e) (fun _ _ h => h.elim)
  obtain ⟨w7, r7, B7, g7⟩ := copy_any w6 (b4 + 1) 0 64 64 A6 9 c6 (intsB hd) (List.replicate 64 0) 105 3 (H5.out.2.2.2.grown g6 (by simp)) (BytesI.of hb6) (by rw [intsB_length, hhl]) (by simp)
  rw [lay_one hd hhl] at B7
  have k7 : Kept (fun j => b4 ≤ j) w w7 := k6.next (Kept.of_grown (F := fun j => j = b4 + 1) g7 (fun j e => (Option.some.inj e).symm)) (fun j _ h => by have h : j = b4 + 1 := h; show b4 ≤ j; omega)
  have hFb : ∀ j, (fun j => b4 ≤ j) j → w.heap.size ≤ j := fun j h => by have := H2.out.2.2.2; have h : b4 ≤ j := h; omega
  obtain ⟨w8, r8, B8, g8⟩ := copy_any w7 (b4 + 1) 9 31 55 A n c (intsB l) (intsB hd ++ List.replicate 55 0) 105 3 B7 (BytesI.of (HX.out.2.2.1.low k7 hFb)) (by rw [intsB_length, HX.out.2.1]) (by simp [intsB, hhl]; omega)
  rw [HM.out, ← hhd, lay_two K l M (by rw [HX.out.2.1]; exact HM.out)] at B8
  rw [HM.out] at r8
  have k8 : Kept (fun j => b4 ≤ j) w w8 := k7.next (Kept.of_grown (F := fun j => j = b4 + 1) g8 (fun j e => (Option.some.inj e).symm)) (fun j _ h => by have h : j = b4 + 1 := h; show b4 ≤ j; omega)
  have B48 : Blk w8 b4 105 zs := ((H5.out.2.2.1.grown g6 (by simp)).grown g7 (by intro e; injection e with e; omega)).grown g8 (by intro e; injection e with e; omega)
  have H8 := Lib.hid (And.intro k8 (And.intro B8 (And.intro B48 hFb)))
  clear hown hb6 k6 B7 k7 hFb B8 k8 B48 g6 g7 g8 hhd hhl
  have hs1 := sec_all w6 (b4 + 1)
  have hs2 := sec_mid w7 (b4 + 1)
  have hs3 := sec_to w8 (b4 + 1) 40 (by omega)
  gi_wp2
  obtain ⟨p8, hp8⟩ : ∃ p, w8.heap.size = p := ⟨_, rfl⟩
  obtain ⟨w9, hw9⟩ : ∃ W, w8.alloc (.cells #[.slice (some ⟨b4 + 1, 0, none⟩) 40 64] 49) = W := ⟨_, rfl⟩
  have g9 : w8.grownBy w9 none := by rw [← hw9]; exact World.grownBy_alloc _ _ none
  have b9 : Blk w9 p8 49 #[.slice (some ⟨b4 + 1, 0, none⟩) 40 64] := by rw [← hw9, ← hp8]; exact Blk.new w8 _ _
  have k9 : Kept (fun j => b4 ≤ j) w w9 := H8.out.1.next (Kept.of_grown (F := fun _ => False) g9 fun _ e => by cases e) (fun _ _ h => h.elim)
  have hhI : BytesI w9 (some ⟨b4 + 1, 0, none⟩) (headL K l) := BytesI.blk (H8.out.2.1.grown g9 (by simp)) (fun j hj => by
    rw [headL_len] at hj
    refine ⟨by simp [headL_len]; omega, ?_⟩
    rw [Nat.zero_add, List.getD, List.getD, List.getElem?_append_left (by rw [headL_len]; exact hj)])
  have hP : PartsI w9 (some ⟨p8, 0, none⟩) [headL K l] := fun j hj => by
    obtain rfl : j = 0 := by simpa using hj
    refine ⟨⟨p8, 0, none⟩, some ⟨b4 + 1, 0, none⟩, 40, 64, rfl, ?_, headL_len K l, by omega, hhI⟩
    rw [add_none]
    exact b9.cell 0
  have HOF := Lib.hid (of_is w9 (HX.out.1.kept k9 H8.out.2.2.2) 5 (some ⟨p8, 0, none⟩) 1 1 [headL K l] rfl hP (by omega) (fun p hp => by simp at hp; rw [hp, headL_len]; omega))
  have H9 := Lib.hid (And.intro k9 (And.intro (H8.out.2.1.grown g9 (by simp)) (H8.out.2.2.1.grown g9 (by simp))))
  rw [hp8, hw9]
  clear g9 b9 k9 hhI hP hp8 hw9 r7 r8 hs1 hs2 hs3
  refine ⟨trivial, ?_⟩
  refine (callsIn_wide.2 HOF.out).mono ?_
  rintro e w10 ⟨rfl, g10⟩
  obtain ⟨ds, hds⟩ : ∃ ds, arrV .u8 (ofS 5 [headL K l]) = ds := ⟨_, rfl⟩
  have hdz : ds.size = 16 := by rw [← hds]; simp [arrV, ofS_length]
  have hdo : ds.all (·.oneCell') = true := by rw [← hds]; simp [arrV, Array.all_eq_true_iff_forall_mem, Value.oneCell']
  obtain ⟨z16, hz16⟩ : ∃ z16, arrV .u8 (List.replicate 16 0) = z16 := ⟨_, rfl⟩
  have hzz : z16.size = 16 := by rw [← hz16]; simp [arrV]
  have hzd : ∀ w, Sem.run Tryz.prog (zeroValue 23) w = .ok (.agg z16) w := fun w => by rw [← hz16]; exact zero16 w
  rw [hds]
  have k10 : Kept (fun j => b4 ≤ j) w w10 := H9.out.1.next (Kept.of_grown (F := fun _ => False) g10 fun _ e => by cases e) (fun _ _ h => h.elim)
  have H10 := Lib.hid (And.intro k10 (And.intro (H9.out.2.1.grown g10 (by simp)) (And.intro (H9.out.2.2.grown g10 (by simp)) (And.intro hds (And.intro hdz (And.intro hdo hzz))))))
  clear k10 g10 hds hdz hdo hzz hz16
  gi_upto_region 9 with (first
    | (refine wpListIn_store_row rfl 23 _ _ rfl w10.heap.size ds rfl rfl 23 z16 (heap_alloc_new w10 _) (by rw [H10.out.2.2.2.2.1]; kernel_rfl) (by rw [H10.out.2.2.2.2.2.2, H10.out.2.2.2.2.1]) H10.out.2.2.2.2.2.1 ?_)
    | gi_in)
  obtain ⟨p9, hp9⟩ : ∃ p, w10.heap.size = p := ⟨_, rfl⟩
  obtain ⟨W1, hW1⟩ : ∃ W, (w10.alloc (.cells z16 23)).setRow p9 ds = W := ⟨_, rfl⟩
  have gW1 : w10.grownBy W1 none := by rw [← hW1]; exact grown_row (World.grownBy_alloc _ _ none) (.inl (by omega)) _
  have bW1 : Blk W1 p9 23 (arrV .u8 (ofS 5 [headL K l])) := by rw [H10.out.2.2.2.1, ← hW1, ← hp9]; exact (Blk.new w10 _ _).row ds
  have kW1 : Kept (fun j => b4 ≤ j) w W1 := H10.out.1.next (Kept.of_grown (F := fun _ => False) gW1 fun _ e => by cases e) (fun _ _ h => h.elim)
  have hp9b : b4 + 1 < p9 := by rw [← hp9]; exact H10.out.2.1.lt
  rw [hp9, hW1]
  obtain ⟨V2, hV2⟩ : ∃ V2, W1.drew = V2 := ⟨_, rfl⟩
  have gV2 : W1.grownBy V2 none := by rw [← hV2]; exact grown_drew (World.grownBy.refl W1 none)
  have bV5 := (H10.out.2.1.grown gW1 (by simp)).grown gV2 (by simp)
  have bV4 := (H10.out.2.2.1.grown gW1 (by simp)).grown gV2 (by simp)
  have bV9 := bW1.grown gV2 (by simp)
  obtain ⟨w11, r11, B11, g11⟩ := copy_any V2 (b4 + 1) 40 24 24 (some ⟨p9, 0, none⟩) 16 16 (ofS 5 [headL K l]) (headL K l ++ List.replicate 24 0) 105 3 bV5 (BytesI.blk bV9 (fun j hj => ⟨by omega, by rw [Nat.zero_add]⟩)) (ofS_length _ _) (by simp [headL_len])
  rw [lay_three] at B11
  have k11 : Kept (fun j => b4 ≤ j) w w11 := (kW1.next (Kept.of_grown (F := fun _ => False) gV2 fun _ e => by cases e) (fun _ _ h => h.elim)).next (Kept.of_grown (F := fun j => j = b4 + 1) g11 (fun j e => (Option.some.inj e).symm)) (fun j _ h => by have h : j = b4 + 1 := h; show b4 ≤ j; omega)
  obtain ⟨fs, hfs⟩ : ∃ fs, arrV .u8 (slotL K l) = fs := ⟨_, rfl⟩
  rw [hfs] at B11
  have hok := arr_ok (slotL K l) (slotL_len K l)
  rw [hfs] at hok
  have hsv : secV (slotL K l) = .agg fs := by rw [← hfs]; rfl
  have H11 := Lib.hid (And.intro k11 (And.intro B11 (And.intro (bV4.grown g11 (by intro e; injection e with e; omega)) (And.intro hok hsv))))
  have hsf : ∀ V, Sem.run Tryz.prog (Instr.sliceAt 105 (.pointer (some ⟨b4 + 1, 0, none⟩)) (some (.int .i64 40)) none none) V = .ok (.slice (some ⟨b4 + 1, 40, none⟩) 24 24) V := fun V => sec_from V (b4 + 1) 40 (by omega)
  have hda : ∀ V, Sem.run Tryz.prog (Instr.sliceAt 23 (.pointer (some ⟨p9, 0, none⟩)) none none none) V = .ok (.slice (some ⟨p9, 0, none⟩) 16 16) V := fun V => dig_all V p9
  clear gW1 bW1 kW1 hp9b hp9 hW1 gV2 bV5 bV4 bV9 B11 g11 k11 hfs hok hsv hzd
  rename_i K8 hK8
  try simp only [Act.put, List.setIfInBounds_toArray, List.set_cons_zero, List.set_cons_succ]
  refine wpIn_normal ?_
  refine wpIn_region_held_wide (S := fun _ => True) (by kernel_rfl) (by kernel_rfl) (by rintro ⟨_, _, h, _⟩; cases h) trivial (fun hHeld => ?_)
  rw [hV2]
  refine wpAnyH_take (i := 0) (oi := _) (v := ?vc0) rfl (by kernel_rfl) (by kernel_rfl) (by kernel_rfl) (fun _ _ _ h => by cases h.1) (Or.inl ⟨by rfl, ?hyc0⟩) (by assumption) ?restc0
  case hyc0 => (intro V hSw; (try dsimp only at hSw); go_simp) <;> with_reducible rfl
  try simp only [Act.put, List.getElem_toArray, List.getElem_cons_succ, List.getElem_cons_zero, List.setIfInBounds_toArray, List.set_cons_zero, List.set_cons_succ]
  refine wpAnyH_take (i := 1) (oi := _) (v := ?vc1) rfl (by kernel_rfl) (by kernel_rfl) (by kernel_rfl) (fun _ _ _ h => by cases h.1) (Or.inl ⟨by rfl, ?hyc1⟩) (by assumption) ?restc1
  case hyc1 => (intro V hSw; (try dsimp only at hSw); go_simp) <;> with_reducible rfl
  try simp only [Act.put, List.getElem_toArray, List.getElem_cons_succ, List.getElem_cons_zero, List.setIfInBounds_toArray, List.set_cons_zero, List.set_cons_succ]
  refine wpAnyH_ready (rs := [2]) (by kernel_rfl) (by simp) ?_
  refine (AllReadyH.cons (o := _) rfl (fun K9 hK => ?_) AllReadyH.nil)
  go_simp
  refine hK.out _ _ trivial (fun hHeld => ?_)
  clear hK K9
  try simp only [Act.put, List.getElem_toArray, List.getElem_cons_succ, List.getElem_cons_zero, List.setIfInBounds_toArray, List.set_cons_zero, List.set_cons_succ]
  refine wpAnyH_done (by kernel_rfl) ?_ _
  refine ⟨rfl, hK8 _ _ ?_⟩
  gi_wp2_with (first
    | (refine wpListIn_load_row rfl 105 _ rfl (b4 + 1) rfl 105 fs (0, 0) _ H11.out.2.1 Tryz.underlying105 rfl (by rw [H11.out.2.2.2.1.1]; kernel_rfl) ?_)
    | (refine wpListIn_store_row rfl 105 _ _ rfl b4 fs rfl rfl 105 zs H11.out.2.2.1 (by rw [H11.out.2.2.2.1.1]; kernel_rfl) (by rw [HX.out.2.2.2.1, H11.out.2.2.2.1.1]; simp [arrV]) H11.out.2.2.2.1.2 ?_)
    | gi_in)
  exact ⟨rfl, _, results_cell rfl _ _ _ ⟨b4, 0, none⟩ (.agg fs) rfl (run_loadVar_row (w11.setRow b4 fs) b4 105 105 fs (0, 0) _ (H11.out.2.2.1.row fs) Tryz.underlying105 rfl (by rw [H11.out.2.2.2.1.1]; kernel_rfl)), by rw [H11.out.2.2.2.2], grown_row (H11.out.1.grownNone (fun j h1 h2 => by have h2 : b4 ≤ j := h2; have := H2.out.2.2.2; omega)) (.inl (by rw [H2.out.2.2.2]; exact Nat.le_refl _)) _⟩
end Go.Proofs.YthkjlgjbjjjohaaGreatDoor
