/-
  Slots: parse.
-/
import Derived.Test.YthkjlgjbjjjohaaGreatDoorSlB
namespace Go.Proofs.YthkjlgjbjjjohaaGreatDoor
open Go.RowKit Go.Maps

theorem over_memS7 : ∀ (y bs : List Int) (a : Nat) (z : Int), z ∈ over bs a y → z ∈ bs ∨ z ∈ y
  | [], bs, a, z, h => .inl h
  | x :: y, bs, a, z, h => by
    rcases over_memS7 y (bs.set a x) (a + 1) z h with h | h
    · rcases List.mem_or_eq_of_mem_set h with h | h
      · exact .inl h
      · exact .inr (by simp [h])
    · exact .inr (by simp [h])
theorem sumW_byteS7 (ws : List Int) : ∀ (k : Nat) (z : Int), z ∈ sumW ws k → 0 ≤ z ∧ z < 256
  | 0, z, h => by
    have : z = 0 := by simpa [sumW] using List.eq_of_mem_replicate h
    omega
  | k + 1, z, h => by
    rcases over_memS7 _ _ _ z h with h | h
    · exact sumW_byteS7 ws k z h
    · simp only [wordB, List.mem_cons, List.not_mem_nil, or_false] at h
      omega
theorem ofS_byte (a0 : Int) (ps : List (List Int)) : ∀ z ∈ ofS a0 ps, 0 ≤ z ∧ z < 256 := fun z hz => sumW_byteS7 _ _ z (List.mem_of_mem_take hz)
theorem intsB_byte (l : List UInt8) : ∀ z ∈ intsB l, 0 ≤ z ∧ z < 256 := fun z hz => by
  obtain ⟨b, _, rfl⟩ := List.mem_map.1 hz
  have := b.toNat_lt
  omega
theorem slotL_byte (n : Nat) (x : List UInt8) : ∀ z ∈ slotL n x, 0 ≤ z ∧ z < 256 := fun z hz => by
  simp only [slotL, headL, List.mem_append, List.mem_cons, List.mem_replicate] at hz
  rcases hz with (h | h | h | ⟨_, h⟩) | h | ⟨_, h⟩
  · exact intsB_byte _ z h
  · omega
  · exact intsB_byte _ z h
  · omega
  · exact ofS_byte _ _ z h
  · omega
/-- Numbers that are bytes. -/
def bytesL (L : List Int) : List UInt8 := L.map fun z => UInt8.ofNat z.toNat
theorem ints_bytes {L : List Int} (h : ∀ z ∈ L, 0 ≤ z ∧ z < 256) : intsB (bytesL L) = L := by
  induction L with
  | nil => rfl
  | cons z L ih =>
    have h0 := h z List.mem_cons_self
    have e : (((UInt8.ofNat z.toNat).toNat : Nat) : Int) = z := by simp; omega
    show ((UInt8.ofNat z.toNat).toNat : Int) :: intsB (bytesL L) = z :: L
    rw [e, ih (fun z hz => h z (List.mem_cons_of_mem _ hz))]
/-- What a slot's bytes say. -/
def parseS (bs : List UInt8) : Option (Nat × List UInt8) :=
  if valOf (bs.take 8) < 9223372036854775808 ∧ valOf ((bs.drop 8).take 1) ≤ 55 ∧ slotL (valOf (bs.take 8)) ((bs.drop 9).take (valOf ((bs.drop 8).take 1))) = intsB bs then
    some (valOf (bs.take 8), (bs.drop 9).take (valOf ((bs.drop 8).take 1))) else none
theorem valOf_one_lt (x : UInt8) : valOf [x] = x.toNat := by simp [valOf]
theorem parse_cases (bs : List UInt8) (hb : bs.length = 64) (n1 e1 : Nat) (l1 : List UInt8) (n2 e2 : Nat) (l2 x3 : List UInt8) (e3 : Nat) (l3 : List UInt8)
    (h1 : pNum 8 0 bs = (n1, e1, l1)) (h2 : pNum 1 e1 l1 = (n2, e2, l2)) (h3 : pFixed (n2 : Int) e2 l2 = (x3, e3, l3)) :
    (e3 ≠ 0 ∧ parseS bs = none) ∨ (e3 = 0 ∧ n1 = valOf (bs.take 8) ∧ valOf (bs.take 8) < 9223372036854775808 ∧ x3 = (bs.drop 9).take (valOf ((bs.drop 8).take 1)) ∧ valOf ((bs.drop 8).take 1) ≤ 55) := by
  have hv1 : valOf ((bs.drop 8).take 1) < 9223372036854775808 := by
    have := valOf_take_lt (bs.drop 8) 1 (by simp; omega)
    omega
  unfold pNum at h1
  rw [if_neg (by omega), if_neg (by omega), if_neg (by omega)] at h1
  by_cases hc : 9223372036854775808 ≤ valOf (bs.take (8 : Int).toNat)
  · rw [if_pos hc] at h1
    have hc : 9223372036854775808 ≤ valOf (bs.take 8) := hc
    injection h1 with h1 h1b
    injection h1b with h1b h1c
    subst h1b
    rw [pNum, if_pos (by omega)] at h2
    injection h2 with h2 h2b
    injection h2b with h2b h2c
    subst h2b
    rw [pFixed, if_pos (by omega)] at h3
    injection h3 with h3 h3b
    injection h3b with h3b h3c
    exact .inl ⟨by omega, by rw [parseS, if_neg (by omega)]⟩
  · rw [if_neg hc] at h1
    have hc : ¬ 9223372036854775808 ≤ valOf (bs.take 8) := hc
    injection h1 with h1 h1b
    injection h1b with h1b h1c
    have h1 : valOf (bs.take 8) = n1 := h1
    have h1c : bs.drop 8 = l1 := h1c
    subst h1b h1c
    unfold pNum at h2
    have hl8 : ((bs.drop 8).length : Int) = 56 := by simp; omega
    rw [if_neg (by omega), if_neg (by omega), if_neg (by rw [hl8]; omega), if_neg (by show ¬ 9223372036854775808 ≤ valOf ((bs.drop 8).take 1); omega)] at h2
    injection h2 with h2 h2b
    injection h2b with h2b h2c
    have h2 : valOf ((bs.drop 8).take 1) = n2 := h2
    have h2c : (bs.drop 8).drop 1 = l2 := h2c
    rw [List.drop_drop] at h2c
    have h2c : bs.drop 9 = l2 := h2c
    subst h2b h2c
    unfold pFixed at h3
    have hl9 : ((bs.drop 9).length : Int) = 55 := by simp; omega
    rw [if_neg (by omega), if_neg (by omega), hl9] at h3
    by_cases h55 : (55 : Int) < (n2 : Int)
    · rw [if_pos h55] at h3
      injection h3 with h3 h3b
      injection h3b with h3b h3c
      exact .inl ⟨by omega, by rw [parseS, if_neg (by omega)]⟩
    · rw [if_neg h55, Int.toNat_natCast] at h3
      injection h3 with h3 h3b
      injection h3b with h3b h3c
      exact .inr ⟨h3b.symm, h1.symm, by omega, by rw [h2]; exact h3.symm, by omega⟩
theorem results_tmp3 {fn : Func} {s u v : Tmp} (h : fn.results = #[.tmp s, .tmp u, .tmp v]) (tmps : Array Value) (P : Program) (w : World) : (results fn tmps).run P w = .ok (.tuple #[tmps.getD s undef, tmps.getD u undef, tmps.getD v undef]) w := by
  simp [results, h, Result.andThen]
set_option maxRecDepth 100000 in
set_option maxHeartbeats 1000000 in
theorem parse_is (w : World) (B : Nat) (E : Nat → Addr) (hR : Rounds w) (he : ErrVars [0, 1] w B E) (hB : B ≤ w.heap.size) (bs : List UInt8) (hb : bs.length = 64) :
    Calls Tryz.prog 72 #[secV (intsB bs)] w fun e w' => w.grownBy w' none ∧ ((parseS bs = none ∧ e = .returned (.tuple #[.int .i64 0, .slice none 0 0, .bool false])) ∨
      (∃ cn rc, parseS bs = some (cn, rc) ∧ ∃ A cap, e = .returned (.tuple #[.int .i64 (cn : Int), .slice A rc.length cap, .bool true]) ∧ BytesAt w' A rc ∧ ∀ ad, A = some ad → w.heap.size ≤ ad.block)) := by
  obtain ⟨cs, hcs⟩ : ∃ cs, ((intsB bs).map (Value.int .u8)).toArray = cs := ⟨_, rfl⟩
  have hsec : secV (intsB bs) = .agg cs := by rw [secV, hcs]
  have hcz : cs.size = 64 := by rw [← hcs]; simpa [intsB] using hb
  have HCS := Lib.hid (And.intro hcz (show arrV .u8 (intsB bs) = cs from hcs))
  have HBS := Lib.hid hb
  have HX := Lib.hid (And.intro hR (And.intro he hB))
  have hsa := fun V b => sec_all V b
  rw [hsec]
  clear hcs hsec hcz hR he hB hb
  go_enter Tryz.func72, Tryz.ntmps72
  go_wp2_with fail
  obtain ⟨p0, hp0⟩ : ∃ p0, w.heap.size = p0 := ⟨_, rfl⟩
  obtain ⟨w0, hw0⟩ : ∃ w0, w.alloc (.cells cs 105) = w0 := ⟨_, rfl⟩
  have g0 : w.grownBy w0 none := by rw [← hw0]; exact World.grownBy_alloc _ _ none
  have c0 : Blk w0 p0 105 cs := by rw [← hw0, ← hp0]; exact Blk.new _ _ _
  have hB0 : BytesAt w0 (some ⟨p0, 0, none⟩) bs := fun hne => by
    refine ⟨_, rfl, fun j hj => ?_⟩
    rw [add_none, c0.cell, Nat.zero_add, ← HCS.out.2]
    simp [arrV, intsB, List.getElem?_eq_getElem hj]
  have H0 := Lib.hid (And.intro g0 (And.intro c0 (And.intro hB0 hp0)))
  clear g0 c0 hB0
  try rw [hw0]
  try rw [hp0]
  clear hw0 hp0
  refine (reader_new w0 (some ⟨p0, 0, none⟩) 64 64 bs HBS.out H0.out.2.2.1 (by omega)).mono ?_
  rintro e w1 ⟨g, s, rfl, hr1, hg1, hg2, hs1, hs2, k1⟩
  have HR1 := Lib.hid (And.intro hr1 (And.intro (grown_trans H0.out.1 k1) (And.intro (H0.out.2.1.grown k1 (by simp)) (And.intro (show B ≤ g by have := HX.out.2.2; have := H0.out.1.size; omega) (show p0 < g by have := H0.out.2.1.lt; omega)))))
  clear hr1 hg1 hg2 hs1 hs2 k1
  obtain ⟨n1, e1, l1, hp1⟩ : ∃ n1 e1 l1, pNum 8 0 bs = (n1, e1, l1) := ⟨_, _, _, rfl⟩
  obtain ⟨n2, e2, l2, hp2⟩ : ∃ n2 e2 l2, pNum 1 e1 l1 = (n2, e2, l2) := ⟨_, _, _, rfl⟩
  obtain ⟨x3, e3, l3, hp3⟩ : ∃ x3 e3 l3, pFixed (n2 : Int) e2 l2 = (x3, e3, l3) := ⟨_, _, _, rfl⟩
  have hcase := parse_cases bs HBS.out n1 e1 l1 n2 e2 l2 x3 e3 l3 hp1 hp2 hp3
  have hl2 : l2.length ≤ 140737488355328 := by
    have a1 := pNum_len 0 bs 8
    rw [hp1] at a1
    have a2 := pNum_len e1 l1 1
    rw [hp2] at a2
    have := HBS.out
    have a1 : l1.length ≤ bs.length := a1
    have a2 : l2.length ≤ l1.length := a2
    omega
  have HP := Lib.hid (And.intro hp1 (And.intro hp2 (And.intro hp3 (And.intro hcase hl2))))
  clear hp1 hp2 hp3 hcase hl2
  go_wp2_with fail
  refine (rnum_is w1 B g s E 0 bs 8 n1 e1 l1 HP.out.1 HR1.out.1 (HX.out.2.1.grown HR1.out.2.1 (by simp)) HR1.out.2.2.2.1).mono ?_
  rintro e w2 ⟨rfl, hr2, k2⟩
  have k2n : w.grownBy w2 none := grown_off HR1.out.2.1 k2 (by have := HR1.out.2.2.2.2; have := H0.out.2.2.2; omega)
  have HR2 := Lib.hid (And.intro hr2 (And.intro k2n (HR1.out.2.2.1.grown k2 (by intro h; injection h with h; have := HR1.out.2.2.2.2; omega))))
  clear hr2 k2 k2n
  go_wp2_with fail
  refine (rnum_is w2 B g s E e1 l1 1 n2 e2 l2 HP.out.2.1 HR2.out.1 (HX.out.2.1.grown HR2.out.2.1 (by simp)) HR1.out.2.2.2.1).mono ?_
  rintro e w3 ⟨rfl, hr3, k3⟩
  have k3n : w.grownBy w3 none := grown_off HR2.out.2.1 k3 (by have := HR1.out.2.2.2.2; have := H0.out.2.2.2; omega)
  have HR3 := Lib.hid (And.intro hr3 (And.intro k3n (HR2.out.2.2.grown k3 (by intro h; injection h with h; have := HR1.out.2.2.2.2; omega))))
  clear hr3 k3 k3n
  go_wp2_with fail
  refine (rfixed_is w3 B g s E e2 l2 (n2 : Int) x3 e3 l3 HP.out.2.2.1 HR3.out.1 (HX.out.2.1.grown HR3.out.2.1 (by simp)) HP.out.2.2.2.2).mono ?_
  rintro e w4 ⟨A3, c3, rfl, hb3, hA3, hr4, k4⟩
  have k4n : w.grownBy w4 none := grown_off HR3.out.2.1 k4 (by have := HR1.out.2.2.2.2; have := H0.out.2.2.2; omega)
  have H4 := Lib.hid (And.intro hr4 k4n)
  have HC4 := Lib.hid (HR3.out.2.2.grown k4 (by intro h; injection h with h; have := HR1.out.2.2.2.2; omega))
  have HB4 := Lib.hid hb3
  have HR4 := Lib.hid (HX.out.1.grown k4n (by simp))
  have HA3 := Lib.hid (show ∀ ad, A3 = some ad → w.heap.size ≤ ad.block from fun ad e => by have := hA3 ad e; have := HR3.out.2.1.size; omega)
  clear hr4 k4 k4n hb3 hA3
  rcases HP.out.2.2.2.1 with ⟨hne, hnone⟩ | ⟨rfl, hn1, hc63, hx3, hm55⟩
  · obtain ⟨q, rfl⟩ : ∃ q, e3 = q + 1 := ⟨e3 - 1, by omega⟩
    have HN := Lib.hid hnone
    clear hnone hne
    go_wp2_with fail
    have g0 := grown_drew (World.grownBy.refl w4 none)
    obtain ⟨V2, hV2⟩ : ∃ V2, w4.drew = V2 := ⟨_, rfl⟩
    rw [hV2] at g0
    have HG := Lib.hid (And.intro g0 (H4.out.1.grown g0))
    clear g0
    refine wp_region_held_drew (S := fun _ => True) (by kernel_rfl) trivial (fun hHeld => ?_)
    rw [hV2]
    refine wpAnyH_take (i := 0) (oi := _) (v := ?vn0) rfl (by kernel_rfl) (by kernel_rfl) (by kernel_rfl) (fun _ _ _ h => h) (Or.inl ⟨by rfl, ?hyn0⟩) (by assumption) ?restn0
    case hyn0 => (intro V hSw; (try dsimp only at hSw); go_simp) <;> with_reducible rfl
    try simp only [Act.put, List.getElem_toArray, List.getElem_cons_succ, List.getElem_cons_zero, List.setIfInBounds_toArray, List.set_cons_zero, List.set_cons_succ]
    refine wpAnyH_ready (rs := [1]) (by kernel_rfl) (by simp) ?_
    refine (AllReadyH.cons (o := _) rfl (fun K9 hK => ?_) AllReadyH.nil)
    go_simp
    refine (err_any V2 g s (errV (E q)) l3 HG.out.2).mono ?_
    rintro e w5 ⟨rfl, hw5⟩
    obtain rfl : V2 = w5 := hw5
    go_wp2_with fail
    refine hK.out _ _ trivial (fun hHeld => ?_)
    clear hK K9
    try simp only [Act.put, List.getElem_toArray, List.getElem_cons_succ, List.getElem_cons_zero, List.setIfInBounds_toArray, List.set_cons_zero, List.set_cons_succ]
    refine wpAnyH_take (i := 2) (oi := _) (v := ?vn2) rfl (by kernel_rfl) (by kernel_rfl) (by kernel_rfl) (fun _ _ _ h => h) (Or.inl ⟨by rfl, ?hyn2⟩) (by assumption) ?restn2
    case hyn2 => (intro V hSw; (try dsimp only at hSw); go_simp) <;> with_reducible rfl
    try simp only [Act.put, List.getElem_toArray, List.getElem_cons_succ, List.getElem_cons_zero, List.setIfInBounds_toArray, List.set_cons_zero, List.set_cons_succ]
    refine wpAnyH_take (i := 3) (oi := _) (v := ?vn3) rfl (by kernel_rfl) (by kernel_rfl) (by kernel_rfl) (fun _ _ _ h => h) (Or.inl ⟨by rfl, ?hyn3⟩) (by assumption) ?restn3
    case hyn3 => (intro V hSw; (try dsimp only at hSw); go_simp) <;> with_reducible rfl
    try simp only [Act.put, List.getElem_toArray, List.getElem_cons_succ, List.getElem_cons_zero, List.setIfInBounds_toArray, List.set_cons_zero, List.set_cons_succ]
    refine wpAnyH_take (i := 4) (oi := _) (v := undef) rfl (by kernel_rfl) (by kernel_rfl) (by kernel_rfl) (fun _ _ _ h => h) (Or.inr ⟨by rfl, rfl⟩) (by assumption) ?restn4
    try simp only [Act.put, List.getElem_toArray, List.getElem_cons_succ, List.getElem_cons_zero, List.setIfInBounds_toArray, List.set_cons_zero, List.set_cons_succ]
    refine wpAnyH_take (i := 5) (oi := _) (v := undef) rfl (by kernel_rfl) (by kernel_rfl) (by kernel_rfl) (fun _ _ _ h => h) (Or.inr ⟨by rfl, rfl⟩) (by assumption) ?restn5
    try simp only [Act.put, List.getElem_toArray, List.getElem_cons_succ, List.getElem_cons_zero, List.setIfInBounds_toArray, List.set_cons_zero, List.set_cons_succ]
    refine wpAnyH_take (i := 6) (oi := _) (v := undef) rfl (by kernel_rfl) (by kernel_rfl) (by kernel_rfl) (fun _ _ _ h => h) (Or.inr ⟨by rfl, rfl⟩) (by assumption) ?restn6
    try simp only [Act.put, List.getElem_toArray, List.getElem_cons_succ, List.getElem_cons_zero, List.setIfInBounds_toArray, List.set_cons_zero, List.set_cons_succ]
    refine wpAnyH_take (i := 7) (oi := _) (v := undef) rfl (by kernel_rfl) (by kernel_rfl) (by kernel_rfl) (fun _ _ _ h => h) (Or.inr ⟨by rfl, rfl⟩) (by assumption) ?restn7
    try simp only [Act.put, List.getElem_toArray, List.getElem_cons_succ, List.getElem_cons_zero, List.setIfInBounds_toArray, List.set_cons_zero, List.set_cons_succ]
    refine wpAnyH_take (i := 8) (oi := _) (v := undef) rfl (by kernel_rfl) (by kernel_rfl) (by kernel_rfl) (fun _ _ _ h => h) (Or.inr ⟨by rfl, rfl⟩) (by assumption) ?restn8
    try simp only [Act.put, List.getElem_toArray, List.getElem_cons_succ, List.getElem_cons_zero, List.setIfInBounds_toArray, List.set_cons_zero, List.set_cons_succ]
    refine wpAnyH_take (i := 9) (oi := _) (v := ?vn9) rfl (by kernel_rfl) (by kernel_rfl) (by kernel_rfl) (fun _ _ _ h => h) (Or.inl ⟨by rfl, ?hyn9⟩) (by assumption) ?restn9
    case hyn9 => (intro V hSw; (try dsimp only at hSw); go_simp) <;> with_reducible rfl
    try simp only [Act.put, List.getElem_toArray, List.getElem_cons_succ, List.getElem_cons_zero, List.setIfInBounds_toArray, List.set_cons_zero, List.set_cons_succ]
    refine wpAnyH_done (by kernel_rfl) ?_ _
    go_wp2_with fail
    refine bodyPost_ret (results_tmp3 rfl _ _ _) rfl ?_
    exact ⟨grown_trans H4.out.2 HG.out.1, .inl ⟨HN.out, rfl⟩⟩
  · obtain ⟨cn, hcn⟩ : ∃ cn, valOf (bs.take 8) = cn := ⟨_, rfl⟩
    obtain ⟨rc, hrc⟩ : ∃ rc, (bs.drop 9).take (valOf ((bs.drop 8).take 1)) = rc := ⟨_, rfl⟩
    rw [hcn] at hn1 hc63
    rw [hrc] at hx3
    subst hn1 hx3
    have hrl : x3.length ≤ 1000000 := by
      have : x3.length ≤ bs.length := by rw [← hrc]; simp; omega
      have := HBS.out
      omega
    have HV := Lib.hid (And.intro (show (n1 : Int) < 9223372036854775808 by omega) hrl)
    have hps : parseS bs = if n1 < 9223372036854775808 ∧ valOf ((bs.drop 8).take 1) ≤ 55 ∧ slotL n1 x3 = intsB bs then some (n1, x3) else none := by rw [parseS, hcn, hrc]
    by_cases heqs : slotL n1 x3 = intsB bs
    · have HEQ := Lib.hid (show decide (slotL n1 x3 = intsB bs) = true from decide_eq_true heqs)
      have HPS := Lib.hid (show parseS bs = some (n1, x3) by rw [hps, if_pos ⟨hc63, hm55, heqs⟩])
      clear hps heqs hcn hrc hc63 hm55 hrl
      go_wp2_with fail
      have g0 := grown_drew (World.grownBy.refl w4 none)
      obtain ⟨V2, hV2⟩ : ∃ V2, w4.drew = V2 := ⟨_, rfl⟩
      rw [hV2] at g0
      have HG := Lib.hid (And.intro g0 (And.intro (H4.out.1.grown g0) (And.intro (HR4.out.grown g0 (by simp)) (And.intro (HB4.out.kept (F := fun _ => False) (Kept.of_grown g0 fun _ e => by cases e) (fun _ _ h => h)) ((HC4.out.grown g0 (by simp)))))))
      clear g0
      refine wp_region_held_drew (S := fun Y => Y.rangeAt p0 0 cs.toList) (by kernel_rfl) (by rw [hV2]; exact range_of_blk HG.out.2.2.2.2) (fun hHeld => ?_)
      rw [hV2] at hHeld ⊢
      refine wpAnyH_take (i := 0) (oi := _) (v := ?vy0) rfl (by kernel_rfl) (by kernel_rfl) (by kernel_rfl) (fun _ _ _ h => h) (Or.inl ⟨by rfl, ?hyy0⟩) (by assumption) ?resty0
      case hyy0 => (intro V hSw; (try dsimp only at hSw); go_simp) <;> with_reducible rfl
      try simp only [Act.put, List.getElem_toArray, List.getElem_cons_succ, List.getElem_cons_zero, List.setIfInBounds_toArray, List.set_cons_zero, List.set_cons_succ]
      refine wpAnyH_ready (rs := [1]) (by kernel_rfl) (by simp) ?_
      refine (AllReadyH.cons (o := _) rfl (fun K9 hK => ?_) AllReadyH.nil)
      go_simp
      refine (err_any V2 g s .nilIface l3 HG.out.2.1).mono ?_
      rintro e w5 ⟨rfl, hw5⟩
      obtain rfl : V2 = w5 := hw5
      go_wp2_with fail
      refine hK.out _ _ (range_of_blk HG.out.2.2.2.2) (fun hHeld => ?_)
      clear hK K9
      try simp only [Act.put, List.getElem_toArray, List.getElem_cons_succ, List.getElem_cons_zero, List.setIfInBounds_toArray, List.set_cons_zero, List.set_cons_succ]
      refine wpAnyH_take (i := 2) (oi := _) (v := ?vy2) rfl (by kernel_rfl) (by kernel_rfl) (by kernel_rfl) (fun _ _ _ h => h) (Or.inl ⟨by rfl, ?hyy2⟩) (by assumption) ?resty2
      case hyy2 => (intro V hSw; (try dsimp only at hSw); go_simp) <;> with_reducible rfl
      try simp only [Act.put, List.getElem_toArray, List.getElem_cons_succ, List.getElem_cons_zero, List.setIfInBounds_toArray, List.set_cons_zero, List.set_cons_succ]
      refine wpAnyH_take (i := 3) (oi := _) (v := ?vy3) rfl (by kernel_rfl) (by kernel_rfl) (by kernel_rfl) (fun _ _ _ h => h) (Or.inl ⟨by rfl, ?hyy3⟩) (by assumption) ?resty3
      case hyy3 => (intro V hSw; (try dsimp only at hSw); go_simp) <;> with_reducible rfl
      try simp only [Act.put, List.getElem_toArray, List.getElem_cons_succ, List.getElem_cons_zero, List.setIfInBounds_toArray, List.set_cons_zero, List.set_cons_succ]
      refine wpAnyH_take (i := 4) (oi := _) (v := ?vy4) rfl (by kernel_rfl) (by kernel_rfl) (by kernel_rfl) (fun _ _ _ h => h) (Or.inl ⟨by rfl, ?hyy4⟩) (by assumption) ?resty4
      case hyy4 => (intro V hSw; (try dsimp only at hSw); go_simp) <;> with_reducible rfl
      try simp only [Act.put, List.getElem_toArray, List.getElem_cons_succ, List.getElem_cons_zero, List.setIfInBounds_toArray, List.set_cons_zero, List.set_cons_succ]
      refine wpAnyH_take (i := 5) (oi := _) (v := ?vy5) rfl (by kernel_rfl) (by kernel_rfl) (by kernel_rfl) (fun _ _ _ h => h) (Or.inl ⟨by rfl, ?hyy5⟩) (by assumption) ?resty5
      case hyy5 => (intro V hSw; (try dsimp only at hSw); go_simp) <;> with_reducible rfl
      try simp only [Act.put, List.getElem_toArray, List.getElem_cons_succ, List.getElem_cons_zero, List.setIfInBounds_toArray, List.set_cons_zero, List.set_cons_succ]
      refine wpAnyH_take (i := 7) (oi := _) (v := .agg cs) rfl (by kernel_rfl) (by kernel_rfl) (by kernel_rfl) (fun _ _ _ h => h) (yieldsIf_load_mid (by rfl) _ _ rfl p0 0 rfl cs.toList _ (fun V hSw => hSw) Tryz.underlying105 rfl (by rw [Array.length_toList, HCS.out.1]; kernel_rfl)) (by assumption) ?resty7
      try simp only [Act.put, List.getElem_toArray, List.getElem_cons_succ, List.getElem_cons_zero, List.setIfInBounds_toArray, List.set_cons_zero, List.set_cons_succ]
      refine wpAnyH_ready (rs := [6]) (by kernel_rfl) (by simp) ?_
      refine (AllReadyH.cons (o := _) rfl (fun K9 hK => ?_) AllReadyH.nil)
      go_simp
      refine (slot_is V2 HG.out.2.2.1 (n1 : Int) HV.out.1 A3 x3.length c3 x3 rfl HG.out.2.2.2.1 HV.out.2).mono ?_
      rintro e w6 ⟨rfl, g6⟩
      rw [Int.toNat_natCast]
      obtain ⟨fs, hfs⟩ : ∃ fs, ((slotL n1 x3).map (Value.int .u8)).toArray = fs := ⟨_, rfl⟩
      have hsv : secV (slotL n1 x3) = .agg fs := by rw [secV, hfs]
      rw [hsv]
      have heq : ∀ V, Sem.run Tryz.prog (Op.equalIn 10000 105 (.agg fs) (.agg cs)) V = .ok true V := fun V => by
        have e := eq_arr (P := Tryz.prog) V 9998 Tryz.underlying105 (by kernel_rfl) Tryz.underlying5 (by kernel_rfl) (by kernel_rfl) (slotL n1 x3) (intsB bs) (slotL_len n1 x3) (by rw [intsB_length]; exact HBS.out)
        rw [show arrV .u8 (slotL n1 x3) = fs from hfs, show arrV .u8 (intsB bs) = cs from HCS.out.2] at e
        rw [e, HEQ.out]
      clear hfs hsv
      go_wp2_with fail
      refine hK.out _ _ (range_of_blk (HG.out.2.2.2.2.grown g6 (by simp))) (fun hHeld => ?_)
      clear hK K9
      try simp only [Act.put, List.getElem_toArray, List.getElem_cons_succ, List.getElem_cons_zero, List.setIfInBounds_toArray, List.set_cons_zero, List.set_cons_succ]
      refine wpAnyH_take (i := 8) (oi := _) (v := ?vy8) rfl (by kernel_rfl) (by kernel_rfl) (by kernel_rfl) (fun _ _ _ h => h) (Or.inl ⟨by rfl, ?hyy8⟩) (by assumption) ?resty8
      case hyy8 => (intro V hSw; (try dsimp only at hSw); go_simp) <;> with_reducible rfl
      try simp only [Act.put, List.getElem_toArray, List.getElem_cons_succ, List.getElem_cons_zero, List.setIfInBounds_toArray, List.set_cons_zero, List.set_cons_succ]
      refine wpAnyH_take (i := 9) (oi := _) (v := ?vy9) rfl (by kernel_rfl) (by kernel_rfl) (by kernel_rfl) (fun _ _ _ h => h) (Or.inl ⟨by rfl, ?hyy9⟩) (by assumption) ?resty9
      case hyy9 => (intro V hSw; (try dsimp only at hSw); go_simp) <;> with_reducible rfl
      try simp only [Act.put, List.getElem_toArray, List.getElem_cons_succ, List.getElem_cons_zero, List.setIfInBounds_toArray, List.set_cons_zero, List.set_cons_succ]
      refine wpAnyH_done (by kernel_rfl) ?_ _
      go_wp2_with fail
      refine bodyPost_ret (results_tmp3 rfl _ _ _) rfl ?_
      exact ⟨grown_trans H4.out.2 (grown_trans HG.out.1 g6), .inr ⟨_, _, HPS.out, A3, c3, rfl, HG.out.2.2.2.1.kept (F := fun _ => False) (Kept.of_grown g6 fun _ e => by cases e) (fun _ _ h => h), HA3.out⟩⟩
    · have HEQ := Lib.hid (show decide (slotL n1 x3 = intsB bs) = false from decide_eq_false heqs)
      have HPS := Lib.hid (show parseS bs = none by rw [hps, if_neg (fun h => heqs h.2.2)])
      clear hps heqs hcn hrc hc63 hm55 hrl
      go_wp2_with fail
      have g0 := grown_drew (World.grownBy.refl w4 none)
      obtain ⟨V2, hV2⟩ : ∃ V2, w4.drew = V2 := ⟨_, rfl⟩
      rw [hV2] at g0
      have HG := Lib.hid (And.intro g0 (And.intro (H4.out.1.grown g0) (And.intro (HR4.out.grown g0 (by simp)) (And.intro (HB4.out.kept (F := fun _ => False) (Kept.of_grown g0 fun _ e => by cases e) (fun _ _ h => h)) ((HC4.out.grown g0 (by simp)))))))
      clear g0
      refine wp_region_held_drew (S := fun Y => Y.rangeAt p0 0 cs.toList) (by kernel_rfl) (by rw [hV2]; exact range_of_blk HG.out.2.2.2.2) (fun hHeld => ?_)
      rw [hV2] at hHeld ⊢
      refine wpAnyH_take (i := 0) (oi := _) (v := ?vz0) rfl (by kernel_rfl) (by kernel_rfl) (by kernel_rfl) (fun _ _ _ h => h) (Or.inl ⟨by rfl, ?hyz0⟩) (by assumption) ?restz0
      case hyz0 => (intro V hSw; (try dsimp only at hSw); go_simp) <;> with_reducible rfl
      try simp only [Act.put, List.getElem_toArray, List.getElem_cons_succ, List.getElem_cons_zero, List.setIfInBounds_toArray, List.set_cons_zero, List.set_cons_succ]
      refine wpAnyH_ready (rs := [1]) (by kernel_rfl) (by simp) ?_
      refine (AllReadyH.cons (o := _) rfl (fun K9 hK => ?_) AllReadyH.nil)
      go_simp
      refine (err_any V2 g s .nilIface l3 HG.out.2.1).mono ?_
      rintro e w5 ⟨rfl, hw5⟩
      obtain rfl : V2 = w5 := hw5
      go_wp2_with fail
      refine hK.out _ _ (range_of_blk HG.out.2.2.2.2) (fun hHeld => ?_)
      clear hK K9
      try simp only [Act.put, List.getElem_toArray, List.getElem_cons_succ, List.getElem_cons_zero, List.setIfInBounds_toArray, List.set_cons_zero, List.set_cons_succ]
      refine wpAnyH_take (i := 2) (oi := _) (v := ?vz2) rfl (by kernel_rfl) (by kernel_rfl) (by kernel_rfl) (fun _ _ _ h => h) (Or.inl ⟨by rfl, ?hyz2⟩) (by assumption) ?restz2
      case hyz2 => (intro V hSw; (try dsimp only at hSw); go_simp) <;> with_reducible rfl
      try simp only [Act.put, List.getElem_toArray, List.getElem_cons_succ, List.getElem_cons_zero, List.setIfInBounds_toArray, List.set_cons_zero, List.set_cons_succ]
      refine wpAnyH_take (i := 3) (oi := _) (v := ?vz3) rfl (by kernel_rfl) (by kernel_rfl) (by kernel_rfl) (fun _ _ _ h => h) (Or.inl ⟨by rfl, ?hyz3⟩) (by assumption) ?restz3
      case hyz3 => (intro V hSw; (try dsimp only at hSw); go_simp) <;> with_reducible rfl
      try simp only [Act.put, List.getElem_toArray, List.getElem_cons_succ, List.getElem_cons_zero, List.setIfInBounds_toArray, List.set_cons_zero, List.set_cons_succ]
      refine wpAnyH_take (i := 4) (oi := _) (v := ?vz4) rfl (by kernel_rfl) (by kernel_rfl) (by kernel_rfl) (fun _ _ _ h => h) (Or.inl ⟨by rfl, ?hyz4⟩) (by assumption) ?restz4
      case hyz4 => (intro V hSw; (try dsimp only at hSw); go_simp) <;> with_reducible rfl
      try simp only [Act.put, List.getElem_toArray, List.getElem_cons_succ, List.getElem_cons_zero, List.setIfInBounds_toArray, List.set_cons_zero, List.set_cons_succ]
      refine wpAnyH_take (i := 5) (oi := _) (v := ?vz5) rfl (by kernel_rfl) (by kernel_rfl) (by kernel_rfl) (fun _ _ _ h => h) (Or.inl ⟨by rfl, ?hyz5⟩) (by assumption) ?restz5
      case hyz5 => (intro V hSw; (try dsimp only at hSw); go_simp) <;> with_reducible rfl
      try simp only [Act.put, List.getElem_toArray, List.getElem_cons_succ, List.getElem_cons_zero, List.setIfInBounds_toArray, List.set_cons_zero, List.set_cons_succ]
      refine wpAnyH_take (i := 7) (oi := _) (v := .agg cs) rfl (by kernel_rfl) (by kernel_rfl) (by kernel_rfl) (fun _ _ _ h => h) (yieldsIf_load_mid (by rfl) _ _ rfl p0 0 rfl cs.toList _ (fun V hSw => hSw) Tryz.underlying105 rfl (by rw [Array.length_toList, HCS.out.1]; kernel_rfl)) (by assumption) ?restz7
      try simp only [Act.put, List.getElem_toArray, List.getElem_cons_succ, List.getElem_cons_zero, List.setIfInBounds_toArray, List.set_cons_zero, List.set_cons_succ]
      refine wpAnyH_ready (rs := [6]) (by kernel_rfl) (by simp) ?_
      refine (AllReadyH.cons (o := _) rfl (fun K9 hK => ?_) AllReadyH.nil)
      go_simp
      refine (slot_is V2 HG.out.2.2.1 (n1 : Int) HV.out.1 A3 x3.length c3 x3 rfl HG.out.2.2.2.1 HV.out.2).mono ?_
      rintro e w6 ⟨rfl, g6⟩
      rw [Int.toNat_natCast]
      obtain ⟨fs, hfs⟩ : ∃ fs, ((slotL n1 x3).map (Value.int .u8)).toArray = fs := ⟨_, rfl⟩
      have hsv : secV (slotL n1 x3) = .agg fs := by rw [secV, hfs]
      rw [hsv]
      have heq : ∀ V, Sem.run Tryz.prog (Op.equalIn 10000 105 (.agg fs) (.agg cs)) V = .ok false V := fun V => by
        have e := eq_arr (P := Tryz.prog) V 9998 Tryz.underlying105 (by kernel_rfl) Tryz.underlying5 (by kernel_rfl) (by kernel_rfl) (slotL n1 x3) (intsB bs) (slotL_len n1 x3) (by rw [intsB_length]; exact HBS.out)
        rw [show arrV .u8 (slotL n1 x3) = fs from hfs, show arrV .u8 (intsB bs) = cs from HCS.out.2] at e
        rw [e, HEQ.out]
      clear hfs hsv
      go_wp2_with fail
      refine hK.out _ _ (range_of_blk (HG.out.2.2.2.2.grown g6 (by simp))) (fun hHeld => ?_)
      clear hK K9
      try simp only [Act.put, List.getElem_toArray, List.getElem_cons_succ, List.getElem_cons_zero, List.setIfInBounds_toArray, List.set_cons_zero, List.set_cons_succ]
      refine wpAnyH_take (i := 8) (oi := _) (v := ?vz8) rfl (by kernel_rfl) (by kernel_rfl) (by kernel_rfl) (fun _ _ _ h => h) (Or.inl ⟨by rfl, ?hyz8⟩) (by assumption) ?restz8
      case hyz8 => (intro V hSw; (try dsimp only at hSw); go_simp) <;> with_reducible rfl
      try simp only [Act.put, List.getElem_toArray, List.getElem_cons_succ, List.getElem_cons_zero, List.setIfInBounds_toArray, List.set_cons_zero, List.set_cons_succ]
      refine wpAnyH_take (i := 9) (oi := _) (v := ?vz9) rfl (by kernel_rfl) (by kernel_rfl) (by kernel_rfl) (fun _ _ _ h => h) (Or.inl ⟨by rfl, ?hyz9⟩) (by assumption) ?restz9
      case hyz9 => (intro V hSw; (try dsimp only at hSw); go_simp) <;> with_reducible rfl
      try simp only [Act.put, List.getElem_toArray, List.getElem_cons_succ, List.getElem_cons_zero, List.setIfInBounds_toArray, List.set_cons_zero, List.set_cons_succ]
      refine wpAnyH_done (by kernel_rfl) ?_ _
      go_wp2_with fail
      refine bodyPost_ret (results_tmp3 rfl _ _ _) rfl ?_
      exact ⟨grown_trans H4.out.2 (grown_trans HG.out.1 g6), .inl ⟨HPS.out, rfl⟩⟩
end Go.Proofs.YthkjlgjbjjjohaaGreatDoor
