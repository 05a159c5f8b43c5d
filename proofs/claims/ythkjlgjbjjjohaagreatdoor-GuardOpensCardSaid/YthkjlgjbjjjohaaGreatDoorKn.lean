/-
  keys.New and (*Key).Root.
-/
import Derived.Test.YthkjlgjbjjjohaaGreatDoorChSig5
import Derived.Test.YthkjlgjbjjjohaaGreatDoorTrT4
namespace Go.Proofs.YthkjlgjbjjjohaaGreatDoor
open Go.RowKit

theorem wpList_build1k {P : Program} {ops : Array Oper} {rest : List Oper} {o : Oper} {a : Act} {w : World} {Q : Exit → Act → World → Prop} (hgd : o.guard = none) (t : TypeId) (i : Nat) (x : Operand) (ho : o.op = .build t #[(i, x)]) (u V : Value) (hx : a.eval x = u)
    (hr : Sem.run P (Instr.build t #[(i, u)]) w = .ok V w) (h : wpList P ops Q rest (a.put o.dst V) w) : wpList P ops Q (o :: rest) a w :=
  wpList_plain hgd fun K hK => by
    have hm : (#[(i, x)] : Array (Nat × Operand)).map (fun (i, x) => (i, a.eval x)) = #[(i, u)] := by simp [hx]
    unfold Oper.wp execOp
    simp only [ho, Sem.run_bind, hm, hr, Result.andThen_ok]
    exact hK _ _ h
theorem arr16 (sd : Array Value) (h : sd.size = 16) : ∃ a0 a1 a2 a3 a4 a5 a6 a7 a8 a9 a10 a11 a12 a13 a14 a15 : Value, sd = #[a0, a1, a2, a3, a4, a5, a6, a7, a8, a9, a10, a11, a12, a13, a14, a15] := by
  obtain ⟨l⟩ := sd
  have h : l.length = 16 := h
  match l, h with
  | [a0, a1, a2, a3, a4, a5, a6, a7, a8, a9, a10, a11, a12, a13, a14, a15], _ => exact ⟨a0, a1, a2, a3, a4, a5, a6, a7, a8, a9, a10, a11, a12, a13, a14, a15, rfl⟩
/-- A key's cells as they are made. -/
def keyZ (sd : Array Value) : Array Value := sd ++ #[.slice none 0 0] ++ #[.int .u8 0, .int .u8 0, .int .u8 0, .int .u8 0, .int .u8 0, .int .u8 0, .int .u8 0, .int .u8 0, .int .u8 0, .int .u8 0, .int .u8 0, .int .u8 0, .int .u8 0, .int .u8 0, .int .u8 0, .int .u8 0]
set_option maxRecDepth 100000 in
theorem build_key (w : World) (sd : Array Value) (h : sd.size = 16) : Sem.run Tryz.prog (Instr.build 94 #[(0, .agg sd)]) w = .ok (.agg (keyZ sd)) w := by
  obtain ⟨a0, a1, a2, a3, a4, a5, a6, a7, a8, a9, a10, a11, a12, a13, a14, a15, rfl⟩ := arr16 sd h
  refine run_build w 94 _ _ ?_
  kernel_rfl
/-- What a key holds: its seed, its row of leaves, its root. -/
def KeyAt (w : World) (kb : Nat) (sd : Array Value) (lv : Value) (rt : Array Value) : Prop := w.rangeAt kb 0 sd.toList ∧ w.cell? ⟨kb, 16, none⟩ = some lv ∧ w.rangeAt kb 17 rt.toList ∧ w.there kb 0 33
theorem KeyAt.to {w w' : World} {kb : Nat} {sd rt : Array Value} {lv : Value} {row : Option Nat} (h : KeyAt w kb sd lv rt) (hg : w.grownBy w' row) (hr : some kb ≠ row) : KeyAt w' kb sd lv rt :=
  ⟨range_to h.1 hg hr, hg.cell h.2.1 hr, range_to h.2.2.1 hg hr, there_to h.2.2.2 hg hr⟩
theorem KeyAt.grown {w w' : World} {kb : Nat} {sd rt : Array Value} {lv : Value} (h : KeyAt w kb sd lv rt) (hg : w.grownBy w' none) : KeyAt w' kb sd lv rt := h.to hg (by simp)
theorem KeyAt.lt {w : World} {kb : Nat} {sd rt : Array Value} {lv : Value} (h : KeyAt w kb sd lv rt) : kb < w.heap.size := World.block_lt_of_cell? w _ h.2.1
theorem keyZ_at {w : World} {kb : Nat} {sd : Array Value} {t : TypeId} (hs : sd.size = 16) (h : Blk w kb t (keyZ sd)) : KeyAt w kb sd (.slice none 0 0) #[.int .u8 0, .int .u8 0, .int .u8 0, .int .u8 0, .int .u8 0, .int .u8 0, .int .u8 0, .int .u8 0, .int .u8 0, .int .u8 0, .int .u8 0, .int .u8 0, .int .u8 0, .int .u8 0, .int .u8 0, .int .u8 0] := by
  refine ⟨fun j v hv => ?_, ?_, fun j v hv => ?_, there_blk h (by simp [keyZ, hs])⟩
  · have hj : j < 16 := by have := (List.getElem?_eq_some_iff.1 hv).1; rwa [Array.length_toList, hs] at this
    rw [h.cell, Nat.zero_add, keyZ, Array.getElem?_append_left (by simp [hs]; omega), Array.getElem?_append_left (by omega), ← Array.getElem?_toList]
    exact hv
  · rw [h.cell, keyZ, Array.getElem?_append_left (by simp [hs]), Array.getElem?_append_right (by omega), hs]
    rfl
  · rw [h.cell, keyZ, Array.getElem?_append_right (by simp [hs]), ← Array.getElem?_toList]
    have e : 17 + j - (sd ++ #[Value.slice none 0 0]).size = j := by simp [hs]
    rw [e]
    exact hv
/-- The cell of the leaves is written. -/
theorem KeyAt.leaves {w : World} {kb : Nat} {sd rt : Array Value} {lv : Value} (hs : sd.size = 16) (h : KeyAt w kb sd lv rt) (v : Value) : KeyAt (w.setCell ⟨kb, 16, none⟩ v) kb sd v rt := by
  have e : w.setCell ⟨kb, 16, none⟩ v = w.setCells kb 16 [v] := rfl
  have ht := h.2.2.2
  refine ⟨by rw [e]; exact World.rangeAt_setCells_apart h.1 _ _ _ (.inr (.inl (by rw [Array.length_toList, hs]; omega))), ?_, by rw [e]; exact World.rangeAt_setCells_apart h.2.2.1 _ _ _ (.inr (.inr (by simp))), by rw [e]; exact World.there_setCells ht _ _ _⟩
  rw [e]
  have := World.rangeAt_setCells_same w kb 16 [v] (there_sub ht (by omega) (by simp)) 0 v rfl
  simpa using this
/-- The root is written. -/
theorem KeyAt.root {w : World} {kb : Nat} {sd rt : Array Value} {lv : Value} (hs : sd.size = 16) (h : KeyAt w kb sd lv rt) (rs : Array Value) (hr : rs.size = 16) : KeyAt (w.setCells kb 17 rs.toList) kb sd lv rs := by
  have ht := h.2.2.2
  refine ⟨World.rangeAt_setCells_apart h.1 _ _ _ (.inr (.inl (by rw [Array.length_toList, hs]; omega))), ?_, World.rangeAt_setCells_same w kb 17 rs.toList (there_sub ht (by omega) (by rw [Array.length_toList, hr]; omega)), World.there_setCells ht _ _ _⟩
  have h1 : w.rangeAt kb 16 [lv] := fun j v hv => by
    have hj : j = 0 := by have := (List.getElem?_eq_some_iff.1 hv).1; simp at this; omega
    subst hj
    have : lv = v := by simpa using hv
    subst this
    exact h.2.1
  have := World.rangeAt_setCells_apart h1 kb 17 rs.toList (.inr (.inl (by simp))) 0 lv rfl
  simpa using this

/-- A seed's leaves, and its root. -/
def leavesC (seed : List Int) : List (List Int) := upto (fun k => pubS seed (k : Int)) 32
def rootC (seed : List Int) : List Int := nodeC (leavesC seed) 5 0
theorem leavesC_length (seed : List Int) : (leavesC seed).length = 32 := upto_length _ _
theorem leavesC_dig (seed : List Int) : ∀ p ∈ leavesC seed, isDig p := by
  intro p hp
  simp only [leavesC, upto, List.mem_map] at hp
  obtain ⟨k, _, rfl⟩ := hp
  exact pubS_dig _ _
theorem leavesC_get {seed : List Int} {k : Nat} (h : k < 32) : (leavesC seed).getD k zeroC = pubS seed (k : Int) := by rw [leavesC, upto_get h]
theorem rootC_dig (seed : List Int) : isDig (rootC seed) := nodeC_dig (leavesC_dig seed) _ _
def leafV (seed : List Int) (k : Nat) : Array Value := arrV .u8 (pubS seed (k : Int))
theorem leafV_size (seed : List Int) (k : Nat) : (leafV seed k).size = 16 := by rw [leafV, arr_size]; exact (pubS_dig _ _).1
theorem pub_of (w : World) (hR : Rounds w) (seed : List Int) (hs : isDig seed) (iv : Int) (k : Nat) (hk : k < 32) (hi : iv = (k : Int)) (sd rs : Array Value) (hsd : sd = arrV .u8 seed) (hrs : rs = leafV seed k) :
    Calls Tryz.prog 34 #[.agg sd, .int .i64 iv] w fun e w' => e = .returned (.tuple #[.agg rs, .nilIface]) ∧ w.grownBy w' none := by
  subst hi hsd
  exact pub_ok w hR seed hs (k : Int) (by omega) rs (by rw [hrs, leafV])
/-- A row in the making: the key's cell of the leaves. -/
def KeyRow (w : World) (kb base : Nat) (sd : Array Value) (n : Nat) (L : List Value) : Prop := ∃ v, KeyAt w kb sd v #[.int .u8 0, .int .u8 0, .int .u8 0, .int .u8 0, .int .u8 0, .int .u8 0, .int .u8 0, .int .u8 0, .int .u8 0, .int .u8 0, .int .u8 0, .int .u8 0, .int .u8 0, .int .u8 0, .int .u8 0, .int .u8 0] ∧ w.ownsRow base 23 16 v n L

set_option maxRecDepth 100000 in
set_option maxHeartbeats 4000000 in
theorem new_is (w : World) (hR : Rounds w) (seed : List Int) (hs : isDig seed) (sd : Array Value) (hsd : sd = arrV .u8 seed) :
    Calls Tryz.prog 16 #[.agg sd] w fun e w' => ∃ kb g cap, e = .returned (.pointer (some ⟨kb, 0, none⟩)) ∧ w.heap.size ≤ kb ∧ w.heap.size ≤ g ∧ 32 ≤ cap ∧ KeyAt w' kb sd (.slice (some ⟨g, 0, none⟩) 32 cap) (arrV .u8 (rootC seed)) ∧ DigsAt w' g 0 (leavesC seed) ∧ kb ≠ g ∧ w.grownBy w' none := by
  obtain ⟨Z16, hZ16⟩ : ∃ Z, Z = arrV .u8 (List.replicate 16 0) := ⟨_, rfl⟩
  have hz16 : ∀ w, Sem.run Tryz.prog (zeroValue 23) w = .ok (.agg Z16) w := fun w => by rw [hZ16]; exact z16run w
  have hs16 : sd.size = 16 := by rw [hsd, arr_size, hs.1]
  obtain ⟨KZ, hKZ⟩ : ∃ KZ, KZ = keyZ sd := ⟨_, rfl⟩
  have HBK := Lib.hid (show ∀ V, Sem.run Tryz.prog (Instr.build 94 #[(0, .agg sd)]) V = .ok (.agg KZ) V from fun V => by rw [hKZ]; exact build_key V sd hs16)
  obtain ⟨i0, hi0, hz0, hz1, hz2⟩ := info_parts info16p
  have HI0 := Lib.hid (And.intro hi0 (And.intro hz0 (And.intro hz1 hz2)))
  have HD := Lib.hid (And.intro hs16 (And.intro (show Z16.size = 16 by rw [hZ16]; rfl) hKZ))
  have HN := Lib.hid (And.intro hR (And.intro hs hsd))
  clear hZ16 hs16 hKZ hi0 hz0 hz1 hz2 hR hs hsd
  go_enter Tryz.func16, Tryz.ntmps16
  have HB0 := Lib.hid (Blk.new w 23 sd)
  go_wp2_with (first
    | (refine wpList_load_row rfl 23 _ rfl w.heap.size rfl 23 sd (0, 0) _ HB0.out Tryz.underlying23 rfl (by rw [HD.out.1]; exact info16) ?_)
    | (refine wpList_build1k rfl 94 0 _ rfl (.agg sd) _ rfl (HBK.out _) ?_))
  obtain ⟨w1, hw1⟩ : ∃ w1, w1 = (w.alloc (.cells sd 23)).alloc (.cells KZ 94) := ⟨_, rfl⟩
  have H1 := Lib.hid (show Blk w1 w.heap.size 23 sd ∧ KeyRow w1 (w.heap.size + 1) (w.heap.size + 2) sd 0 (rowV (leafV seed) 0) ∧ w.grownBy w1 none ∧ w1.heap.size = w.heap.size + 2 from by
    have b2 := Blk.new (w.alloc (.cells sd 23)) 94 KZ
    rw [World.size_alloc] at b2
    rw [hw1]
    refine ⟨HB0.out.alloc _, ⟨_, keyZ_at HD.out.1 (by rw [← HD.out.2.2]; exact b2), World.ownsRow_nil _ _ _ _⟩, grown_trans (World.grownBy_alloc w _ none) (World.grownBy_alloc _ _ none), by simp⟩)
  have HW1 := Lib.hid (And.intro hw1 (Eq.refl (w.heap.size + 1)))
  rw [← hw1]
  clear hw1
  go_loopw [10] (fun i wr => ∃ k : Nat, k ≤ 32 ∧ i = .int .i64 (k : Int) ∧ Blk wr w.heap.size 23 sd ∧ KeyRow wr (w.heap.size + 1) (w.heap.size + 2) sd k (rowV (leafV seed) k) ∧ w.grownBy wr none ∧ w.heap.size + 2 ≤ wr.heap.size) (fun i _ => 32 - (intOf i).toNat)
  case atStart => exact ⟨0, by omega, rfl, H1.out.1, H1.out.2.1, H1.out.2.2.1, Nat.le_of_eq H1.out.2.2.2.symm⟩
  case round =>
    obtain ⟨k, hk, hi, hB, ⟨v, hKA, hown⟩, hG, hsz⟩ := hrel
    obtain ⟨I, hI⟩ : ∃ I : Int, I = (k : Int) := ⟨_, rfl⟩
    rw [← hI] at hi
    subst hi
    obtain ⟨A1, cap1, rfl⟩ := own_slice _ hown
    by_cases hlt : k < 32
    · have d1 : decide (I < 32) = true := by simp; omega
      have hb0 : 0 ≤ I ∧ I < 32 := by omega
      obtain ⟨es, hes⟩ : ∃ es, es = leafV seed k := ⟨_, rfl⟩
      obtain ⟨el, hel⟩ : ∃ el, el = es.toList := ⟨_, rfl⟩
      have he16 : es.size = 16 := by rw [hes]; exact leafV_size _ _
      have HES := Lib.hid (And.intro he16 (And.intro (show (es.all fun v => v.oneCell') = true by rw [hes, leafV]; exact arr_one _ _) (And.intro hes (And.intro (show (Tryz.prog.info? 23).map (·.size) = some el.length by rw [hel, Array.length_toList, he16]; exact info16) (And.intro (show el.toArray = es by rw [hel, Array.toArray_toList]) hel)))))
      have HP := Lib.hid (pub_of wr (HN.out.1.grown hG (by simp)) seed HN.out.2.1 I k hlt hI sd es HN.out.2.2 hes)
      have HBS := Lib.hid (show ∀ V : World, Sem.run Tryz.prog (Instr.buildSlice 71 1 #[(0, .agg el.toArray)]) V = .ok (.slice (some ⟨V.heap.size, 0, none⟩) 1 1) (V.alloc (.cells es 23)) from fun V => by
        rw [HES.out.2.2.2.2.1]
        exact run_slice_one V 71 23 es Tryz.underlying71 (by rw [he16]; exact info16) (by rw [he16]; kernel_rfl) (by omega) (by omega))
      have HK := Lib.hid (And.intro hI (And.intro hlt (And.intro hB (And.intro hKA (And.intro hown (And.intro hG hsz))))))
      clear hI hlt hB hKA hown hG hsz hes hel he16 hk
      go_wp2_with (refine wpList_load_row rfl 23 _ rfl w.heap.size rfl 23 sd (0, 0) _ HK.out.2.2.1 Tryz.underlying23 rfl (by rw [HD.out.1]; exact info16) ?_)
      refine HP.out.mono ?_
      rintro e w2 ⟨rfl, hk2⟩
      have HK2 := Lib.hid hk2
      clear hk2
      go_wp2_with (refine wpList_store_row rfl 23 _ _ rfl w2.heap.size es rfl rfl 23 _ (heap_alloc_new w2 _) (by rw [HES.out.1]; exact info16) (by rw [HD.out.2.1, HES.out.1]) HES.out.2.1 ?_)
      obtain ⟨w3, hw3⟩ : ∃ w3, w3 = (w2.alloc (.cells Z16 23)).setRow w2.heap.size es := ⟨_, rfl⟩
      obtain ⟨pb, hpb⟩ : ∃ pb, pb = w2.heap.size := ⟨_, rfl⟩
      have H3 := Lib.hid (show wr.grownBy w3 none ∧ w3.rangeAt pb 0 el ∧ KeyAt w3 (w.heap.size + 1) sd (.slice A1 k cap1) #[.int .u8 0, .int .u8 0, .int .u8 0, .int .u8 0, .int .u8 0, .int .u8 0, .int .u8 0, .int .u8 0, .int .u8 0, .int .u8 0, .int .u8 0, .int .u8 0, .int .u8 0, .int .u8 0, .int .u8 0, .int .u8 0] ∧ w3.ownsRow (w.heap.size + 2) 23 16 (.slice A1 k cap1) k (rowV (leafV seed) k) ∧ (w.heap.size + 1) ≠ pb ∧ some pb ≠ (Value.slice A1 k cap1).ownBlock ∧ some (w.heap.size + 1) ≠ (Value.slice A1 k cap1).ownBlock from by
        have g3 : wr.grownBy w3 none := by rw [hw3]; exact grown_trans HK2.out (grown_row (World.grownBy_alloc w2 (.cells Z16 23) none) (.inl (Nat.le_refl _)) es)
        refine ⟨g3, ?_, HK.out.2.2.2.1.grown g3, own_keep HK.out.2.2.2.2.1 g3, ?_, ?_, ?_⟩
        · rw [hw3, hpb, HES.out.2.2.2.2.2]; exact range_blk ((Blk.new w2 23 Z16).row es)
        · have h1 := HK.out.2.2.2.1.lt; have h2 := HK2.out.size; omega
        · intro e; have h1 := (HK.out.2.2.2.2.1.lt _ e.symm).2; have h2 := HK2.out.size; omega
        · intro e; have h1 := (HK.out.2.2.2.2.1.lt _ e.symm).1; have h2 := HW1.out.2; omega)
      rw [← hw3, ← hpb]
      clear hw3 hpb
      have HG3 := Lib.hid (grown_drew (World.grownBy.refl w3 none))
      refine wp_region_held_drew (S := fun V => V.rangeAt pb 0 el) (by kernel_rfl) (range_grown H3.out.2.1 HG3.out) (fun hHeld => ?_)
      refine wpAnyH_take (i := 0) (oi := _) (v := ?v0n) rfl (by kernel_rfl) (by kernel_rfl) (by kernel_rfl) (fun _ _ _ h => h) (Or.inl ⟨by rfl, ?hy0n⟩) (by assumption) ?rest0n
      case hy0n => (intro V hSw; (try dsimp only at hSw); go_simp) <;> with_reducible rfl
      simp only [Act.put, List.getElem_toArray, List.getElem_cons_zero, List.setIfInBounds_toArray, List.set_cons_zero, List.set_cons_succ]
      refine wpAnyH_take (i := 1) (oi := _) (v := ?v1n) rfl (by kernel_rfl) (by kernel_rfl) (by kernel_rfl) (fun _ _ _ h => h) (Or.inl ⟨by rfl, ?hy1n⟩) (by assumption) ?rest1n
      case hy1n => (intro V hSw; (try dsimp only at hSw); go_simp) <;> with_reducible rfl
      simp only [Act.put, List.getElem_toArray, List.getElem_cons_succ, List.getElem_cons_zero, List.setIfInBounds_toArray, List.set_cons_zero, List.set_cons_succ]
      refine wpAnyH_take (i := 2) (oi := _) (v := ?v2n) rfl (by kernel_rfl) (by kernel_rfl) (by kernel_rfl) (fun _ _ _ h => h) (Or.inl ⟨by rfl, ?hy2n⟩) (by assumption) ?rest2n
      case hy2n => (intro V hSw; (try dsimp only at hSw); go_simp) <;> with_reducible rfl
      simp only [Act.put, List.getElem_toArray, List.getElem_cons_succ, List.getElem_cons_zero, List.setIfInBounds_toArray, List.set_cons_zero, List.set_cons_succ]
      refine wpAnyH_take (i := 3) (oi := _) (v := ?v3n) rfl (by kernel_rfl) (by kernel_rfl) (by kernel_rfl) (fun _ _ _ h => h) (Or.inl ⟨by rfl, ?hy3n⟩) (by assumption) ?rest3n
      case hy3n => (intro V hSw; (try dsimp only at hSw); go_simp) <;> with_reducible rfl
      simp only [Act.put, List.getElem_toArray, List.getElem_cons_succ, List.getElem_cons_zero, List.setIfInBounds_toArray, List.set_cons_zero, List.set_cons_succ]
      refine wpAnyH_take (i := 5) (oi := _) (v := .agg el.toArray) rfl (by kernel_rfl) (by kernel_rfl) (by kernel_rfl) (fun _ _ _ h => h) (yieldsIf_load_mid (by rfl) _ _ rfl pb 0 rfl el _ (fun V hSw => hSw) Tryz.underlying23 rfl HES.out.2.2.2.1) (by assumption) ?rest5n
      simp only [Act.put, List.getElem_toArray, List.getElem_cons_succ, List.getElem_cons_zero, List.setIfInBounds_toArray, List.set_cons_zero, List.set_cons_succ]
      have ckb := (H3.out.2.2.1.grown HG3.out).2.1
      refine wpAnyH_ready (rs := [4, 6]) (by kernel_rfl) (by simp) ?_
      refine AllReadyH.cons (o := _) rfl (fun K hK => ?_) (AllReadyH.cons (o := _) rfl (fun K hK => ?_) AllReadyH.nil)
      · go_simp
        refine hK.out _ _ hHeld (fun hHeld => ?_)
        clear hK K
        try simp only [Act.put, List.setIfInBounds_toArray, List.set_cons_zero, List.set_cons_succ]
        refine wpAnyH_ready (rs := [6]) (by kernel_rfl) (by simp) ?_
        refine AllReadyH.cons (o := _) rfl (fun K hK => ?_) AllReadyH.nil
        rw [if_pos (by rfl)]
        refine wp_bslice_run 71 1 0 _ rfl (.agg el.toArray) _ rfl (HBS.out w3.drew) ?_
        have HG4 := Lib.hid (grown_trans HG3.out (World.grownBy_alloc w3.drew (.cells es 23) none))
        have HO4 := Lib.hid (own_keep H3.out.2.2.2.1 HG3.out)
        refine hK.out _ _ (range_grown H3.out.2.1 HG4.out) (fun hHeld => ?_)
        clear hK K ckb
        try simp only [Act.put, List.setIfInBounds_toArray, List.set_cons_zero, List.set_cons_succ]
        refine wpAnyH_ready (rs := [7]) (by kernel_rfl) (by simp) ?_
        refine AllReadyH.cons (o := _) rfl (fun K hK => ?_) AllReadyH.nil
        rw [if_pos (by rfl)]
        have HB2 := Lib.hid (Blk.new w3.drew 23 es)
        refine wp_append_own _ _ _ 71 rfl (w.heap.size + 2) 23 i0 _ 16 16 Tryz.underlying71 HI0.out.1 HI0.out.2.1 HI0.out.2.2.1 HI0.out.2.2.2 rfl (by decide) (.slice A1 k cap1) _ _ rfl (HO4.out.alloc _) ⟨w3.drew.heap.size, 0, none⟩ 1 1 es.toList rfl (show es.toList.length = 1 * 16 by rw [Array.length_toList]; exact HES.out.1) (fun j u hu => by rw [addr_zero_add]; exact (HB2.out.cell j).trans (by rw [← Array.getElem?_toList]; exact hu)) (fun u hu => (Array.all_eq_true_iff_forall_mem.1 HES.out.2.1) u (by simpa using hu)) (by have := HK.out.2.1; simp only [maxLen]; omega) (by have := HK.out.2.1; omega) (show w.heap.size + 2 ≤ (w3.alloc (.cells es 23)).heap.size by rw [World.size_alloc]; have h1 := HK.out.2.2.2.2.2.2; have h2 := H3.out.1.size; omega) ?_
        intro v' w5 hown5 hgrow5 _
        obtain ⟨A5, cap5, rfl⟩ := own_slice _ hown5
        have HX5 := Lib.hid (show KeyAt w5 (w.heap.size + 1) sd (.slice A1 k cap1) #[.int .u8 0, .int .u8 0, .int .u8 0, .int .u8 0, .int .u8 0, .int .u8 0, .int .u8 0, .int .u8 0, .int .u8 0, .int .u8 0, .int .u8 0, .int .u8 0, .int .u8 0, .int .u8 0, .int .u8 0, .int .u8 0] ∧ w5.ownsRow (w.heap.size + 2) 23 16 (.slice A5 (k + 1) cap5) (k + 1) (rowV (leafV seed) k ++ es.toList) ∧ w3.grownBy w5 (Value.slice A1 k cap1).ownBlock from
          ⟨(H3.out.2.2.1.grown HG4.out).to hgrow5 H3.out.2.2.2.2.2.2, hown5, grown_trans (grown_weak HG4.out _) hgrow5⟩)
        have hS5 := range_to H3.out.2.1 HX5.out.2.2 H3.out.2.2.2.2.2.1
        have ckb := HX5.out.1.2.1
        have fkb := (HX5.out.1.2.2.2 16 (by omega)).2
        rw [Nat.zero_add] at fkb
        clear hown5 hgrow5
        refine hK.out _ _ hS5 (fun hHeld => ?_)
        clear hK K
        try simp only [Act.put, List.setIfInBounds_toArray, List.set_cons_zero, List.set_cons_succ]
        refine wpAnyH_take (i := 8) (oi := _) (v := ?v8na) rfl (by kernel_rfl) (by kernel_rfl) (by kernel_rfl) (fun _ _ _ h => h) (Or.inl ⟨by rfl, ?hy8na⟩) (by assumption) ?rest8na
        case hy8na => (intro V hSw; (try dsimp only at hSw); go_simp) <;> with_reducible rfl
        simp only [Act.put, List.getElem_toArray, List.getElem_cons_succ, List.getElem_cons_zero, List.setIfInBounds_toArray, List.set_cons_zero, List.set_cons_succ]
        refine wpAnyH_take (i := 9) (oi := _) (v := ?v9na) rfl (by kernel_rfl) (by kernel_rfl) (by kernel_rfl) (fun _ _ _ h => h) (Or.inl ⟨by rfl, ?hy9na⟩) (by assumption) ?rest9na
        case hy9na => (intro V hSw; (try dsimp only at hSw); go_simp) <;> with_reducible rfl
        simp only [Act.put, List.getElem_toArray, List.getElem_cons_succ, List.getElem_cons_zero, List.setIfInBounds_toArray, List.set_cons_zero, List.set_cons_succ]
        refine wpAnyH_ready (rs := [10]) (by kernel_rfl) (by simp) ?_
        refine AllReadyH.cons (o := _) rfl (fun K hK => ?_) AllReadyH.nil
        go_simp
        have hg6 := grownBy_setCell' w5 (w.heap.size + 1) (.slice A5 (k + 1) cap5)
        obtain ⟨w6, hw6⟩ : ∃ w6, w6 = w5.setCell ⟨(w.heap.size + 1), 16, none⟩ (.slice A5 (k + 1) cap5) := ⟨_, rfl⟩
        have hg6 : w5.grownBy w6 (some (w.heap.size + 1)) := by
          rw [hw6]
          exact ⟨rfl, rfl, rfl, by simp [World.setCell], fun j _ hne => Below.heap_setCell w5 _ _ j (fun e => hne (by rw [e]))⟩
        have hKA6 : KeyAt w6 (w.heap.size + 1) sd (.slice A5 (k + 1) cap5) #[.int .u8 0, .int .u8 0, .int .u8 0, .int .u8 0, .int .u8 0, .int .u8 0, .int .u8 0, .int .u8 0, .int .u8 0, .int .u8 0, .int .u8 0, .int .u8 0, .int .u8 0, .int .u8 0, .int .u8 0, .int .u8 0] := by rw [hw6]; exact HX5.out.1.leaves HD.out.1 _
        rw [← hw6]
        refine hK.out _ _ (range_to hS5 hg6 (fun e => H3.out.2.2.2.2.1 (Option.some.inj e).symm)) (fun _ => ?_)
        refine wpAnyH_done (by kernel_rfl) ?_ _
        have H6 := Lib.hid (show Blk w6 w.heap.size 23 sd ∧ KeyRow w6 (w.heap.size + 1) (w.heap.size + 2) sd (k + 1) (rowV (leafV seed) (k + 1)) ∧ w.grownBy w6 none ∧ w.heap.size + 2 ≤ w6.heap.size from by
          have hkb := HW1.out.2
          have hvb : ∀ q, (Value.slice A1 k cap1).ownBlock = some q → w.heap.size + 2 ≤ q := fun q hq => (HK.out.2.2.2.2.1.lt q hq).1
          have g5 : wr.grownBy w5 (Value.slice A1 k cap1).ownBlock := grown_trans (grown_weak H3.out.1 _) HX5.out.2.2
          have b5 := HK.out.2.2.1.grown g5 (fun e => by have := hvb _ e.symm; omega)
          have o6 := HX5.out.2.1.kept hg6 (.inr (fun e => by have := (HX5.out.2.1.lt _ e).1; omega))
          have gw5 : w.grownBy w5 none := grown_own_r HK.out.2.2.2.2.2.1 g5 HK.out.2.2.2.2.1 (by omega)
          refine ⟨b5.grown hg6 (fun e => by have := Option.some.inj e; omega), ⟨_, hKA6, ?_⟩, grown_fresh gw5 hg6 (by omega), Nat.le_trans HK.out.2.2.2.2.2.2 (Nat.le_trans g5.size hg6.size)⟩
          rw [rowV, ← HES.out.2.2.1]
          exact o6)
        clear hw6 hg6 hKA6 ckb fkb hS5
        go_wp2_with fail
        go_roundw
        case rel =>
          obtain ⟨hI, hlt, _⟩ := HK.out
          exact ⟨k + 1, by omega, by rw [hI]; rfl, H6.out.1, H6.out.2.1, H6.out.2.2.1, H6.out.2.2.2⟩
        case measure => obtain ⟨hI, hlt, _⟩ := HK.out; simp only [intOf]; omega
      · rw [if_pos (by rfl)]
        refine wp_bslice_run 71 1 0 _ rfl (.agg el.toArray) _ rfl (HBS.out w3.drew) ?_
        have HG4 := Lib.hid (grown_trans HG3.out (World.grownBy_alloc w3.drew (.cells es 23) none))
        have HO4 := Lib.hid (own_keep H3.out.2.2.2.1 HG3.out)
        refine hK.out _ _ (range_grown H3.out.2.1 HG4.out) (fun hHeld => ?_)
        clear hK K ckb
        try simp only [Act.put, List.setIfInBounds_toArray, List.set_cons_zero, List.set_cons_succ]
        have ckb := (H3.out.2.2.1.grown (World.grownBy_alloc w3 (.cells es 23) none)).2.1
        refine wpAnyH_ready (rs := [4]) (by kernel_rfl) (by simp) ?_
        refine AllReadyH.cons (o := _) rfl (fun K hK => ?_) AllReadyH.nil
        go_simp
        refine hK.out _ _ hHeld (fun hHeld => ?_)
        clear hK K ckb
        try simp only [Act.put, List.setIfInBounds_toArray, List.set_cons_zero, List.set_cons_succ]
        refine wpAnyH_ready (rs := [7]) (by kernel_rfl) (by simp) ?_
        refine AllReadyH.cons (o := _) rfl (fun K hK => ?_) AllReadyH.nil
        rw [if_pos (by rfl)]
        have HB2 := Lib.hid (Blk.new w3.drew 23 es)
        refine wp_append_own _ _ _ 71 rfl (w.heap.size + 2) 23 i0 _ 16 16 Tryz.underlying71 HI0.out.1 HI0.out.2.1 HI0.out.2.2.1 HI0.out.2.2.2 rfl (by decide) (.slice A1 k cap1) _ _ rfl (HO4.out.alloc _) ⟨w3.drew.heap.size, 0, none⟩ 1 1 es.toList rfl (show es.toList.length = 1 * 16 by rw [Array.length_toList]; exact HES.out.1) (fun j u hu => by rw [addr_zero_add]; exact (HB2.out.cell j).trans (by rw [← Array.getElem?_toList]; exact hu)) (fun u hu => (Array.all_eq_true_iff_forall_mem.1 HES.out.2.1) u (by simpa using hu)) (by have := HK.out.2.1; simp only [maxLen]; omega) (by have := HK.out.2.1; omega) (show w.heap.size + 2 ≤ (w3.alloc (.cells es 23)).heap.size by rw [World.size_alloc]; have h1 := HK.out.2.2.2.2.2.2; have h2 := H3.out.1.size; omega) ?_
        intro v' w5 hown5 hgrow5 _
        obtain ⟨A5, cap5, rfl⟩ := own_slice _ hown5
        have HX5 := Lib.hid (show KeyAt w5 (w.heap.size + 1) sd (.slice A1 k cap1) #[.int .u8 0, .int .u8 0, .int .u8 0, .int .u8 0, .int .u8 0, .int .u8 0, .int .u8 0, .int .u8 0, .int .u8 0, .int .u8 0, .int .u8 0, .int .u8 0, .int .u8 0, .int .u8 0, .int .u8 0, .int .u8 0] ∧ w5.ownsRow (w.heap.size + 2) 23 16 (.slice A5 (k + 1) cap5) (k + 1) (rowV (leafV seed) k ++ es.toList) ∧ w3.grownBy w5 (Value.slice A1 k cap1).ownBlock from
          ⟨(H3.out.2.2.1.grown HG4.out).to hgrow5 H3.out.2.2.2.2.2.2, hown5, grown_trans (grown_weak HG4.out _) hgrow5⟩)
        have hS5 := range_to H3.out.2.1 HX5.out.2.2 H3.out.2.2.2.2.2.1
        have ckb := HX5.out.1.2.1
        have fkb := (HX5.out.1.2.2.2 16 (by omega)).2
        rw [Nat.zero_add] at fkb
        clear hown5 hgrow5
        refine hK.out _ _ hS5 (fun hHeld => ?_)
        clear hK K
        try simp only [Act.put, List.setIfInBounds_toArray, List.set_cons_zero, List.set_cons_succ]
        refine wpAnyH_take (i := 8) (oi := _) (v := ?v8nb) rfl (by kernel_rfl) (by kernel_rfl) (by kernel_rfl) (fun _ _ _ h => h) (Or.inl ⟨by rfl, ?hy8nb⟩) (by assumption) ?rest8nb
        case hy8nb => (intro V hSw; (try dsimp only at hSw); go_simp) <;> with_reducible rfl
        simp only [Act.put, List.getElem_toArray, List.getElem_cons_succ, List.getElem_cons_zero, List.setIfInBounds_toArray, List.set_cons_zero, List.set_cons_succ]
        refine wpAnyH_take (i := 9) (oi := _) (v := ?v9nb) rfl (by kernel_rfl) (by kernel_rfl) (by kernel_rfl) (fun _ _ _ h => h) (Or.inl ⟨by rfl, ?hy9nb⟩) (by assumption) ?rest9nb
        case hy9nb => (intro V hSw; (try dsimp only at hSw); go_simp) <;> with_reducible rfl
        simp only [Act.put, List.getElem_toArray, List.getElem_cons_succ, List.getElem_cons_zero, List.setIfInBounds_toArray, List.set_cons_zero, List.set_cons_succ]
        refine wpAnyH_ready (rs := [10]) (by kernel_rfl) (by simp) ?_
        refine AllReadyH.cons (o := _) rfl (fun K hK => ?_) AllReadyH.nil
        go_simp
        have hg6 := grownBy_setCell' w5 (w.heap.size + 1) (.slice A5 (k + 1) cap5)
        obtain ⟨w6, hw6⟩ : ∃ w6, w6 = w5.setCell ⟨(w.heap.size + 1), 16, none⟩ (.slice A5 (k + 1) cap5) := ⟨_, rfl⟩
        have hg6 : w5.grownBy w6 (some (w.heap.size + 1)) := by
          rw [hw6]
          exact ⟨rfl, rfl, rfl, by simp [World.setCell], fun j _ hne => Below.heap_setCell w5 _ _ j (fun e => hne (by rw [e]))⟩
        have hKA6 : KeyAt w6 (w.heap.size + 1) sd (.slice A5 (k + 1) cap5) #[.int .u8 0, .int .u8 0, .int .u8 0, .int .u8 0, .int .u8 0, .int .u8 0, .int .u8 0, .int .u8 0, .int .u8 0, .int .u8 0, .int .u8 0, .int .u8 0, .int .u8 0, .int .u8 0, .int .u8 0, .int .u8 0] := by rw [hw6]; exact HX5.out.1.leaves HD.out.1 _
        rw [← hw6]
        refine hK.out _ _ (range_to hS5 hg6 (fun e => H3.out.2.2.2.2.1 (Option.some.inj e).symm)) (fun _ => ?_)
        refine wpAnyH_done (by kernel_rfl) ?_ _
        have H6 := Lib.hid (show Blk w6 w.heap.size 23 sd ∧ KeyRow w6 (w.heap.size + 1) (w.heap.size + 2) sd (k + 1) (rowV (leafV seed) (k + 1)) ∧ w.grownBy w6 none ∧ w.heap.size + 2 ≤ w6.heap.size from by
          have hkb := HW1.out.2
          have hvb : ∀ q, (Value.slice A1 k cap1).ownBlock = some q → w.heap.size + 2 ≤ q := fun q hq => (HK.out.2.2.2.2.1.lt q hq).1
          have g5 : wr.grownBy w5 (Value.slice A1 k cap1).ownBlock := grown_trans (grown_weak H3.out.1 _) HX5.out.2.2
          have b5 := HK.out.2.2.1.grown g5 (fun e => by have := hvb _ e.symm; omega)
          have o6 := HX5.out.2.1.kept hg6 (.inr (fun e => by have := (HX5.out.2.1.lt _ e).1; omega))
          have gw5 : w.grownBy w5 none := grown_own_r HK.out.2.2.2.2.2.1 g5 HK.out.2.2.2.2.1 (by omega)
          refine ⟨b5.grown hg6 (fun e => by have := Option.some.inj e; omega), ⟨_, hKA6, ?_⟩, grown_fresh gw5 hg6 (by omega), Nat.le_trans HK.out.2.2.2.2.2.2 (Nat.le_trans g5.size hg6.size)⟩
          rw [rowV, ← HES.out.2.2.1]
          exact o6)
        clear hw6 hg6 hKA6 ckb fkb hS5
        go_wp2_with fail
        go_roundw
        case rel =>
          obtain ⟨hI, hlt, _⟩ := HK.out
          exact ⟨k + 1, by omega, by rw [hI]; rfl, H6.out.1, H6.out.2.1, H6.out.2.2.1, H6.out.2.2.2⟩
        case measure => obtain ⟨hI, hlt, _⟩ := HK.out; simp only [intOf]; omega
    · obtain rfl : k = 32 := by omega
      have d1 : decide (I < 32) = false := by simp; omega
      obtain ⟨g, cap, hv, hcap, hbg, _, hrg⟩ := own_rows (leafV seed) (leafV_size seed) (by omega) hown
      rw [hv] at hKA hown
      clear hv
      have hDg : DigsAt wr g 0 (leavesC seed) := fun j hj => by
        rw [leavesC_length] at hj
        rw [leavesC_get hj]
        exact hrg j hj
      obtain ⟨rs, hrs⟩ : ∃ rs, rs = arrV .u8 (rootC seed) := ⟨_, rfl⟩
      have ckb := hKA.2.1
      have HRS := Lib.hid (And.intro (show rs.size = 16 by rw [hrs, arr_size]; exact (rootC_dig _).1) (And.intro (show (rs.all fun v => v.oneCell') = true by rw [hrs]; exact arr_one _ _) hrs))
      have HK := Lib.hid (And.intro hKA (And.intro hDg (And.intro hG (And.intro hcap hbg))))
      clear hI hlt hB hKA hown hG hsz hrs hDg hrg hcap hbg hk
      go_wp2_with fail
      refine (root_ok wr (HN.out.1.grown HK.out.2.2.1 (by simp)) g 0 cap (leavesC seed) (leavesC_length _) (leavesC_dig _) HK.out.2.1 rs (by rw [HRS.out.2.2, rootC])).mono ?_
      rintro e w4 ⟨rfl, hk4⟩
      have H4 := Lib.hid (And.intro (HK.out.1.grown hk4) (And.intro (HK.out.2.1.grown hk4) (grown_trans HK.out.2.2.1 hk4)))
      clear hk4 ckb
      go_wp2_with (refine wpList_store_mid rfl 23 _ _ rfl (w.heap.size + 1) 17 rs rfl rfl (there_sub H4.out.1.2.2.2 (by omega) (by rw [HRS.out.1]; omega)) (by rw [HRS.out.1]; exact info16) HRS.out.2.1 ?_)
      go_ret
      have hkb := HW1.out.2
      have hg5 : w4.grownBy (w4.setCells (w.heap.size + 1) 17 rs.toList) (some (w.heap.size + 1)) := grown_setCells (w.heap.size + 1) _ _ _ (World.grownBy.refl _ _)
      have hne : (w.heap.size + 1) ≠ g := by have := HK.out.2.2.2.2; omega
      refine ⟨(w.heap.size + 1), g, cap, rfl, by omega, by have := HK.out.2.2.2.2; omega, HK.out.2.2.2.1, ?_, fun j hj => range_to (H4.out.2.1 j hj) hg5 (fun e => hne (Option.some.inj e).symm), hne, grown_fresh H4.out.2.2 hg5 (by omega)⟩
      rw [← HRS.out.2.2]
      exact H4.out.1.root HD.out.1 rs HRS.out.1

set_option maxRecDepth 100000 in
theorem kroot_is (w : World) (kb : Nat) (sd rt : Array Value) (lv : Value) (h : KeyAt w kb sd lv rt) (hr : rt.size = 16) (h1 : (rt.all fun v => v.oneCell') = true) :
    Calls Tryz.prog 23 #[.pointer (some ⟨kb, 0, none⟩)] w fun e w' => e = .returned (.agg rt) ∧ w.grownBy w' none := by
  obtain ⟨Z16, hZ16⟩ : ∃ Z, Z = arrV .u8 (List.replicate 16 0) := ⟨_, rfl⟩
  have hz16 : ∀ w, Sem.run Tryz.prog (zeroValue 23) w = .ok (.agg Z16) w := fun w => by rw [hZ16]; exact z16run w
  obtain ⟨el, hel⟩ : ∃ el, el = rt.toList := ⟨_, rfl⟩
  have hr1 : (w.alloc (.cells Z16 23)).rangeAt kb 17 el := by rw [hel]; exact range_grown h.2.2.1 (World.grownBy_alloc w _ none)
  have HE := Lib.hid (And.intro hr1 (And.intro (show (Tryz.prog.info? 23).map (·.size) = some el.length by rw [hel, Array.length_toList, hr]; exact info16) (show el.toArray = rt by rw [hel, Array.toArray_toList])))
  have HS := Lib.hid (And.intro hr (And.intro h1 (show Z16.size = 16 by rw [hZ16]; rfl)))
  clear hZ16 hel hr1 h hr h1
  go_enter Tryz.func23, Tryz.ntmps23
  go_wp2_with (first
    | (refine wpList_load_mid rfl 23 _ rfl kb _ rfl el _ HE.out.1 Tryz.underlying23 rfl HE.out.2.1 ?_; rw [HE.out.2.2])
    | (refine wpList_store_row rfl 23 _ _ rfl w.heap.size rt rfl rfl 23 _ (heap_alloc_new w _) (by rw [HS.out.1]; exact info16) (by rw [HS.out.2.2, HS.out.1]) HS.out.2.1 ?_))
  refine bodyPost_ret (results_cell rfl _ _ _ ⟨w.heap.size, 0, none⟩ (.agg rt) rfl (run_loadVar_row _ w.heap.size 23 23 rt (0, 0) _ ((Blk.new w 23 Z16).row rt) Tryz.underlying23 rfl (by rw [HS.out.1]; exact info16))) rfl ?_
  exact ⟨rfl, grown_row (World.grownBy_alloc w _ none) (.inl (Nat.le_refl _)) rt⟩
end Go.Proofs.YthkjlgjbjjjohaaGreatDoor
