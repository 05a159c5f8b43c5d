/-
  Several texts in one: ShConv, OuD, OuB, OuI.
-/
import Derived.Test.YtmoebkdbnldbdaaGreatDoorM20ph
import Derived.Test.YtmoebkdbnldbdaaGreatDoorM20pc
import Derived.Lib.ConvBytes
import Derived.Test.YtmoebkdbnldbdaaGreatDoorM20ps
import Derived.Test.YtmoebkdbnldbdaaGreatDoorM20pk
import Derived.Test.YtmoebkdbnldbdaaGreatDoorM20pj
import Derived.Test.YtmoebkdbnldbdaaGreatDoorM20pl
import Derived.Test.YtmoebkdbnldbdaaGreatDoorM20po
import Derived.Test.YtmoebkdbnldbdaaGreatDoorM20pi
/-
  A string's bytes.
-/
namespace Go.Proofs.YtmoebkdbnldbdaaGreatDoor
open Go.RowKit

theorem conv_is (w : World) (s : ByteArray) : ∃ c w', (∀ t, t = w → Sem.run Tryz.prog (convert 9 61 (.string s)) t = .ok (.slice (some ⟨w.heap.size, 0, none⟩) s.size c) w') ∧ s.size ≤ c ∧ BytesI w' (some ⟨w.heap.size, 0, none⟩) (intsB s.data.toList) ∧ w.grownBy w' none ∧ w.heap.size < w'.heap.size := by
  refine ⟨_, _, fun t e => by rw [e]; exact Lib.run_convert_string_bytes w 9 61 5 s Tryz.underlying9 Tryz.underlying61 Tryz.underlying5, grownCap_ge _ _ _ _, fun _ => ⟨_, rfl, fun j hj => ?_⟩, ⟨?_, ?_, ?_, ?_, ?_⟩, ?_⟩
  · rw [intsB_length] at hj
    rw [show (⟨w.heap.size, 0, none⟩ : Addr).add j = ⟨w.heap.size, j, none⟩ by have := add_none w.heap.size 0 j; rwa [Nat.zero_add] at this]
    have hj2 : j < s.size := by rw [Array.length_toList] at hj; exact hj
    rw [Lib.bytesWorld_cell w 5 s j hj2]
    congr 2
    simp only [intsB, List.getD, List.getElem?_map, List.getElem?_eq_getElem hj, Option.map_some, Option.getD_some]
  · simp [Lib.bytesWorld, World.freeze, World.alloc, World.drew, -World.alloc_eq, -World.drew_eq]
  · simp [Lib.bytesWorld, World.freeze, World.alloc, World.drew, -World.alloc_eq, -World.drew_eq]
  · simp [Lib.bytesWorld, World.freeze, World.alloc, World.drew, -World.alloc_eq, -World.drew_eq]
  · rw [Lib.bytesWorld_size]; omega
  · exact fun k hk _ => Lib.bytesWorld_at_old w _ s k hk
  · rw [Lib.bytesWorld_size]; omega
end Go.Proofs.YtmoebkdbnldbdaaGreatDoor
/-
  The document's Out (layer 9): digest, many, done.
-/
namespace Go.Proofs.YtmoebkdbnldbdaaGreatDoor
open Go.RowKit

theorem bytesAt_ofI {w : World} {A : Option Addr} {l : List UInt8} (h : BytesI w A (intsB l)) : BytesAt w A l := fun hne => by
  obtain ⟨ad, e, hat⟩ := h (by simpa [intsB] using hne)
  refine ⟨ad, e, fun j hj => ?_⟩
  have := hat j (by simpa [intsB] using hj)
  rw [this]
  simp [intsB, List.getD, List.getElem?_eq_getElem hj]
theorem intsB_dgB' : ∀ {d : List Int}, (∀ z ∈ d, 0 ≤ z ∧ z < 256) → intsB (dgB d) = d
  | [], _ => rfl
  | z :: r, h => by
    have hz := h z (by simp)
    have e : (((UInt8.ofNat z.toNat).toNat : Nat) : Int) = z := by
      rw [UInt8.toNat_ofNat', Nat.mod_eq_of_lt (by omega)]
      omega
    have := intsB_dgB' (d := r) (fun y hy => h y (by simp [hy]))
    simp only [intsB, dgB, List.map_cons] at this ⊢
    rw [e, this]
theorem intsB_dgB {d : List Int} (hd : isDig d) : intsB (dgB d) = d := intsB_dgB' hd.2
theorem range_set_ou {w : World} {b g : Nat} {cs : List Value} (h : w.rangeAt b 0 cs) (hne : g ≠ b) (v : Value) : (w.setCell ⟨g, 0, none⟩ v).rangeAt b 0 cs := fun j u hu => by
  rw [World.cell?_setCell_far _ _ _ _ (by simpa using hne)]
  exact h j u hu
theorem dig_strB (d : List Int) (hd : isDig d) : ∃ s : ByteArray, xsOf s = d ∧ s.data.toList = dgB d ∧ s.size = (dgB d).length := by
  obtain ⟨s, hs⟩ := ints_str d hd.2
  have e : s.data.toList = dgB d := intsB_inj (by rw [intsB_dgB hd, ← hs]; rfl)
  exact ⟨s, hs, e, by rw [← e, Array.length_toList]; rfl⟩
section
variable {w0 w w' w'' : World} {g : Nat} {F : Nat → Prop} {s s' : WSt}
set_option maxRecDepth 100000 in
set_option maxHeartbeats 2000000 in
theorem odig_st (h : OI w0 g F s w) (hs : s.2.length ≤ 70368744177664) (d : List Int) (hd : isDig d) (dd : Array Value) (hdd : dd = arrV .u8 d) :
    Calls Tryz.prog 37 #[.pointer (some ⟨g, 0, none⟩), .agg dd] w fun e w' => e = .returned (.tuple #[]) ∧ OP w0 g F (sDig d s) w w' := by
  obtain ⟨e0, l⟩ := s
  obtain ⟨i0, hi, hz0, hz1, hz2⟩ := info_parts u8_info
  simp only at hs
  obtain ⟨W1, hW1⟩ : ∃ W1, w.alloc (.cells dd 24) = W1 := ⟨_, rfl⟩
  have g1 : w.grownBy W1 none := by rw [← hW1]; exact World.grownBy_alloc _ _ none
  have bx : Blk W1 w.heap.size 24 dd := by rw [← hW1]; exact Blk.new w _ _
  have hsz : dd.size = 16 := by rw [hdd, arr_size, hd.1]
  have hgq : g ≠ w.heap.size := by
    obtain ⟨_, bA, bc, hb, _⟩ := h.wr
    have := hb.lt
    omega
  have P1 := h.grown g1
  obtain ⟨hBg, bA, bc, hb, hown, hF⟩ := P1.wi.wr
  have c0 := hb.cell 0
  have c1 := hb.cell 1
  simp at c0 c1
  have HP1 := Lib.hid P1
  have HW := Lib.hid hW1
  have HQ := Lib.hid hgq
  rcases e0 with _ | e0
  · obtain ⟨S, hs1, hs2, hs3⟩ := dig_strB d hd
    obtain ⟨x, hx⟩ : ∃ x, dgB d = x := ⟨_, rfl⟩
    have hr : sDig d (0, l) = (0, l ++ x) := by rw [← hx]; rfl
    rw [hx] at hs2 hs3
    have hxl : x.length = 16 := by rw [← hx, dgB_length, hd.1]
    have HXL := Lib.hid (And.intro hxl hs)
    have HT := Lib.hid (show ∀ W : World, Calls Tryz.prog 52 #[.agg dd] W fun e w' => e = .returned (.string S) ∧ W.grownBy w' none from fun W => by rw [hdd]; exact text_is W d hd.1 S hs1)
    have HS := Lib.hid (And.intro hs3 hs2)
    have HD := Lib.hid (And.intro hdd (And.intro hsz bx))
    have HI := Lib.hid (And.intro hi (And.intro hz0 (And.intro hz1 hz2)))
    have HH := Lib.hid P1.wi
    have HB := Lib.hid (And.intro hBg (And.intro hb (And.intro hown hF)))
    have HR := Lib.hid (show W1.drew.rangeAt w.heap.size 0 dd.toList from range_blk0 bx)
    have HX := Lib.hid (fun (w1 : World) (A : Option Addr) (hbI : BytesI w1 A (intsB S.data.toList)) (gn : W1.drew.grownBy w1 none) =>
      And.intro (show BytesAt w1 A x by rw [← hs2]; exact bytesAt_ofI hbI) (And.intro (World.ownsRow.kept (show W1.drew.ownsRow 0 5 1 (.slice bA l.length bc) l.length (Lib.byteCells l) from hown) gn (by cases hv : (Value.slice bA l.length bc).ownBlock <;> simp)) (And.intro (Blk.grown (show Blk W1.drew g 76 #[.slice bA l.length bc, .int .i64 0] from hb) gn (by simp)) (Blk.grown (show Blk W1.drew w.heap.size 24 dd from bx) gn (by simp)))))
    rw [hr]
    clear hr hx hxl hs hs1 hs2 hs3 hdd hsz bx hi hz0 hz1 hz2 hBg hb hown hF P1 hW1 hgq g1 h hd
    go_enter Tryz.func37, Tryz.ntmps37
    go_upto_region 1 with (fail)
    rw [HW.out]
    go_upto_region 2 with (fail)
    have c0d : W1.drew.cell? ⟨g, 0, none⟩ = some (.slice bA l.length bc) := c0
    refine wp_region_held_drew (S := fun V => V.rangeAt w.heap.size 0 dd.toList) (by kernel_rfl) HR.out (fun hHeld => ?_)
    refine wpAnyH_take (i := 0) (oi := _) (v := ?vn0) rfl (by kernel_rfl) (by kernel_rfl) (by kernel_rfl) (fun _ _ _ h => h) (Or.inl ⟨by rfl, ?hyn0⟩) (by assumption) ?restn0
    case hyn0 => (intro V hSw; (try dsimp only at hSw); go_simp) <;> with_reducible rfl
    try simp only [Act.put, List.getElem_toArray, List.getElem_cons_succ, List.getElem_cons_zero, List.setIfInBounds_toArray, List.set_cons_zero, List.set_cons_succ]
    refine wpAnyH_take (i := 1) (oi := _) (v := ?vn1) rfl (by kernel_rfl) (by kernel_rfl) (by kernel_rfl) (fun _ _ _ h => h) (Or.inl ⟨by rfl, ?hyn1⟩) (by assumption) ?restn1
    case hyn1 => (intro V hSw; (try dsimp only at hSw); go_simp) <;> with_reducible rfl
    try simp only [Act.put, List.getElem_toArray, List.getElem_cons_succ, List.getElem_cons_zero, List.setIfInBounds_toArray, List.set_cons_zero, List.set_cons_succ]
    refine wpAnyH_take (i := 2) (oi := _) (v := ?vn2) rfl (by kernel_rfl) (by kernel_rfl) (by kernel_rfl) (fun _ _ _ h => h) (Or.inl ⟨by rfl, ?hyn2⟩) (by assumption) ?restn2
    case hyn2 => (intro V hSw; (try dsimp only at hSw); go_simp) <;> with_reducible rfl
    try simp only [Act.put, List.getElem_toArray, List.getElem_cons_succ, List.getElem_cons_zero, List.setIfInBounds_toArray, List.set_cons_zero, List.set_cons_succ]
    refine wpAnyH_take (i := 3) (oi := _) (v := ?vn3) rfl (by kernel_rfl) (by kernel_rfl) (by kernel_rfl) (fun _ _ _ h => h) (Or.inl ⟨by rfl, ?hyn3⟩) (by assumption) ?restn3
    case hyn3 => (intro V hSw; (try dsimp only at hSw); go_simp) <;> with_reducible rfl
    try simp only [Act.put, List.getElem_toArray, List.getElem_cons_succ, List.getElem_cons_zero, List.setIfInBounds_toArray, List.set_cons_zero, List.set_cons_succ]
    refine wpAnyH_take (i := 5) (oi := _) (v := .agg dd) rfl (by kernel_rfl) (by kernel_rfl) (by kernel_rfl) (fun _ _ _ h => h) (yieldsIf_load_mid (by rfl) _ _ rfl w.heap.size 0 rfl dd.toList _ (fun V hSw => hSw) Tryz.underlying24 rfl (by rw [Array.length_toList, HD.out.2.1]; exact info16b)) (by assumption) ?restn5
    try simp only [Act.put, List.getElem_toArray, List.getElem_cons_succ, List.getElem_cons_zero, List.setIfInBounds_toArray, List.set_cons_zero, List.set_cons_succ]
    refine wpAnyH_ready (rs := [4, 6]) (by kernel_rfl) (by simp) ?_
    refine (AllReadyH.cons (o := _) rfl (fun K9 hK => ?_) (AllReadyH.cons (o := _) rfl (fun K9 hK => ?_) AllReadyH.nil))
    · go_simp
      refine hK.out _ _ hHeld (fun hHeld => ?_)
      clear hK K9
      try simp only [Act.put, List.getElem_toArray, List.getElem_cons_succ, List.getElem_cons_zero, List.setIfInBounds_toArray, List.set_cons_zero, List.set_cons_succ]
      refine wpAnyH_ready (rs := [6]) (by kernel_rfl) (by simp) ?_
      refine (AllReadyH.cons (o := _) rfl (fun K9 hK => ?_) AllReadyH.nil)
      go_simp
      refine (HT.out W1.drew).mono ?_
      rintro e w2 ⟨rfl, gt⟩
      have d0 := gt.cell c0d (by simp)
      obtain ⟨cv, w3, hcv0, _, hbI, gc, _⟩ := conv_is w2 S
      have hcv := hcv0 _ rfl
      rw [HS.out.1] at hcv
      have f3 := gc.cell d0 (by simp)
      have HG := Lib.hid (grown_trans gt gc)
      have HY := Lib.hid (HX.out w3 (some ⟨w2.heap.size, 0, none⟩) hbI (grown_trans gt gc))
      have HR2 := Lib.hid (range_kept HR.out gt)
      have HR3 := Lib.hid (range_kept HR.out (grown_trans gt gc))
      clear gt gc hcv0 hbI
      (try go_wp2_with fail)
      refine hK.out _ _ HR2.out (fun hHeld => ?_)
      clear hK K9
      try simp only [Act.put, List.getElem_toArray, List.getElem_cons_succ, List.getElem_cons_zero, List.setIfInBounds_toArray, List.set_cons_zero, List.set_cons_succ]
      refine wpAnyH_ready (rs := [7]) (by kernel_rfl) (by simp) ?_
      refine (AllReadyH.cons (o := _) rfl (fun K9 hK => ?_) AllReadyH.nil)
      go_simp
      refine hK.out _ _ HR3.out (fun hHeld => ?_)
      clear hK K9
      try simp only [Act.put, List.getElem_toArray, List.getElem_cons_succ, List.getElem_cons_zero, List.setIfInBounds_toArray, List.set_cons_zero, List.set_cons_succ]
      refine wpAnyH_ready (rs := [8]) (by kernel_rfl) (by simp) ?_
      refine (AllReadyH.cons (o := _) rfl (fun K9 hK => ?_) AllReadyH.nil)
      refine step_append_bytes _ (by rfl) _ _ _ (by rfl) 0 5 i0 _ Tryz.underlying61 HI.out.1 HI.out.2.1 HI.out.2.2.1 HI.out.2.2.2 rfl (.slice bA l.length bc) l.length (Lib.byteCells l) (by rfl) HY.out.2.1 (some ⟨w2.heap.size, 0, none⟩) _ x (by rfl) HY.out.1 (by have := HXL.out; omega) (Nat.zero_le _) ?_
      intro A' cap' w3 hown1 hgrow hat
      have hb3 := HY.out.2.2.1.grown hgrow (own_ne HY.out.2.1 HY.out.2.2.1 (by decide)).symm
      have f0 := hb3.frozen 0
      have d3 : w3.cell? ⟨g, 0, none⟩ = some (.slice bA l.length bc) := hb3.cell 0
      clear hb3
      have HP := Lib.hid (OutIs.pushed (F := Proofs.YtmoebkdbnldbdaaGreatDoor.upTo F w.heap.size W1.heap.size) HB.out.1 HY.out.2.2.1 HY.out.2.1 HB.out.2.2.2 hown1 hgrow hat)
      have HR4 := Lib.hid (range_blk0 (HY.out.2.2.2.grown hgrow (own_ne HY.out.2.1 HY.out.2.2.2 (by decide)).symm))
      clear hown1 hgrow hat
      refine hK.out _ _ HR4.out (fun hHeld => ?_)
      clear hK K9
      try simp only [Act.put, List.getElem_toArray, List.getElem_cons_succ, List.getElem_cons_zero, List.setIfInBounds_toArray, List.set_cons_zero, List.set_cons_succ]
      refine wpAnyH_take (i := 9) (oi := _) (v := ?va9) rfl (by kernel_rfl) (by kernel_rfl) (by kernel_rfl) (fun _ _ _ h => h) (Or.inl ⟨by rfl, ?hya9⟩) (by assumption) ?resta9
      case hya9 => (intro V hSw; (try dsimp only at hSw); go_simp) <;> with_reducible rfl
      try simp only [Act.put, List.getElem_toArray, List.getElem_cons_succ, List.getElem_cons_zero, List.setIfInBounds_toArray, List.set_cons_zero, List.set_cons_succ]
      refine wpAnyH_take (i := 10) (oi := _) (v := ?va10) rfl (by kernel_rfl) (by kernel_rfl) (by kernel_rfl) (fun _ _ _ h => h) (Or.inl ⟨by rfl, ?hya10⟩) (by assumption) ?resta10
      case hya10 => (intro V hSw; (try dsimp only at hSw); go_simp) <;> with_reducible rfl
      try simp only [Act.put, List.getElem_toArray, List.getElem_cons_succ, List.getElem_cons_zero, List.setIfInBounds_toArray, List.set_cons_zero, List.set_cons_succ]
      refine wpAnyH_ready (rs := [11]) (by kernel_rfl) (by simp) ?_
      refine (AllReadyH.cons (o := _) rfl (fun K9 hK => ?_) AllReadyH.nil)
      go_simp
      refine hK.out _ _ (range_set_ou HR4.out HQ.out _) (fun hHeld => ?_)
      clear hK K9
      try simp only [Act.put, List.getElem_toArray, List.getElem_cons_succ, List.getElem_cons_zero, List.setIfInBounds_toArray, List.set_cons_zero, List.set_cons_succ]
      refine wpAnyH_done (by kernel_rfl) ?_ _
      go_wp2
      go_end0
      refine ⟨rfl, HP1.out.trans ((HH.out.same.drew).trans (OI.step HH.out.same.drew.wi ?_ ?_))⟩
      · exact (Kept.of_grown HG.out fun _ e => by cases e).follow_ou HP.out.2 fun j _ hj => .inl hj
      · refine HP.out.1.mono fun j _ hj => ?_
        have := HG.out.size
        rcases hj with h1 | ⟨h1, h2⟩
        · exact .inl (.inl h1)
        · exact .inr ⟨by omega, by simpa [World.setCell] using h2⟩
    · go_simp
      refine (HT.out W1.drew).mono ?_
      rintro e w2 ⟨rfl, gt⟩
      have d0 := gt.cell c0d (by simp)
      obtain ⟨cv, w3, hcv0, _, hbI, gc, _⟩ := conv_is w2 S
      have hcv := hcv0 _ rfl
      rw [HS.out.1] at hcv
      have f3 := gc.cell d0 (by simp)
      have HG := Lib.hid (grown_trans gt gc)
      have HY := Lib.hid (HX.out w3 (some ⟨w2.heap.size, 0, none⟩) hbI (grown_trans gt gc))
      have HR2 := Lib.hid (range_kept HR.out gt)
      have HR3 := Lib.hid (range_kept HR.out (grown_trans gt gc))
      clear gt gc hcv0 hbI
      (try go_wp2_with fail)
      refine hK.out _ _ HR2.out (fun hHeld => ?_)
      clear hK K9
      try simp only [Act.put, List.getElem_toArray, List.getElem_cons_succ, List.getElem_cons_zero, List.setIfInBounds_toArray, List.set_cons_zero, List.set_cons_succ]
      refine wpAnyH_ready (rs := [4, 7]) (by kernel_rfl) (by simp) ?_
      refine (AllReadyH.cons (o := _) rfl (fun K9 hK => ?_) (AllReadyH.cons (o := _) rfl (fun K9 hK => ?_) AllReadyH.nil))
      · go_simp
        refine hK.out _ _ HR2.out (fun hHeld => ?_)
        clear hK K9
        try simp only [Act.put, List.getElem_toArray, List.getElem_cons_succ, List.getElem_cons_zero, List.setIfInBounds_toArray, List.set_cons_zero, List.set_cons_succ]
        refine wpAnyH_ready (rs := [7]) (by kernel_rfl) (by simp) ?_
        refine (AllReadyH.cons (o := _) rfl (fun K9 hK => ?_) AllReadyH.nil)
        go_simp
        refine hK.out _ _ HR3.out (fun hHeld => ?_)
        clear hK K9
        try simp only [Act.put, List.getElem_toArray, List.getElem_cons_succ, List.getElem_cons_zero, List.setIfInBounds_toArray, List.set_cons_zero, List.set_cons_succ]
        refine wpAnyH_ready (rs := [8]) (by kernel_rfl) (by simp) ?_
        refine (AllReadyH.cons (o := _) rfl (fun K9 hK => ?_) AllReadyH.nil)
        refine step_append_bytes _ (by rfl) _ _ _ (by rfl) 0 5 i0 _ Tryz.underlying61 HI.out.1 HI.out.2.1 HI.out.2.2.1 HI.out.2.2.2 rfl (.slice bA l.length bc) l.length (Lib.byteCells l) (by rfl) HY.out.2.1 (some ⟨w2.heap.size, 0, none⟩) _ x (by rfl) HY.out.1 (by have := HXL.out; omega) (Nat.zero_le _) ?_
        intro A' cap' w3 hown1 hgrow hat
        have hb3 := HY.out.2.2.1.grown hgrow (own_ne HY.out.2.1 HY.out.2.2.1 (by decide)).symm
        have f0 := hb3.frozen 0
        have d3 : w3.cell? ⟨g, 0, none⟩ = some (.slice bA l.length bc) := hb3.cell 0
        clear hb3
        have HP := Lib.hid (OutIs.pushed (F := Proofs.YtmoebkdbnldbdaaGreatDoor.upTo F w.heap.size W1.heap.size) HB.out.1 HY.out.2.2.1 HY.out.2.1 HB.out.2.2.2 hown1 hgrow hat)
        have HR4 := Lib.hid (range_blk0 (HY.out.2.2.2.grown hgrow (own_ne HY.out.2.1 HY.out.2.2.2 (by decide)).symm))
        clear hown1 hgrow hat
        refine hK.out _ _ HR4.out (fun hHeld => ?_)
        clear hK K9
        try simp only [Act.put, List.getElem_toArray, List.getElem_cons_succ, List.getElem_cons_zero, List.setIfInBounds_toArray, List.set_cons_zero, List.set_cons_succ]
        refine wpAnyH_take (i := 9) (oi := _) (v := ?vb9) rfl (by kernel_rfl) (by kernel_rfl) (by kernel_rfl) (fun _ _ _ h => h) (Or.inl ⟨by rfl, ?hyb9⟩) (by assumption) ?restb9
        case hyb9 => (intro V hSw; (try dsimp only at hSw); go_simp) <;> with_reducible rfl
        try simp only [Act.put, List.getElem_toArray, List.getElem_cons_succ, List.getElem_cons_zero, List.setIfInBounds_toArray, List.set_cons_zero, List.set_cons_succ]
        refine wpAnyH_take (i := 10) (oi := _) (v := ?vb10) rfl (by kernel_rfl) (by kernel_rfl) (by kernel_rfl) (fun _ _ _ h => h) (Or.inl ⟨by rfl, ?hyb10⟩) (by assumption) ?restb10
        case hyb10 => (intro V hSw; (try dsimp only at hSw); go_simp) <;> with_reducible rfl
        try simp only [Act.put, List.getElem_toArray, List.getElem_cons_succ, List.getElem_cons_zero, List.setIfInBounds_toArray, List.set_cons_zero, List.set_cons_succ]
        refine wpAnyH_ready (rs := [11]) (by kernel_rfl) (by simp) ?_
        refine (AllReadyH.cons (o := _) rfl (fun K9 hK => ?_) AllReadyH.nil)
        go_simp
        refine hK.out _ _ (range_set_ou HR4.out HQ.out _) (fun hHeld => ?_)
        clear hK K9
        try simp only [Act.put, List.getElem_toArray, List.getElem_cons_succ, List.getElem_cons_zero, List.setIfInBounds_toArray, List.set_cons_zero, List.set_cons_succ]
        refine wpAnyH_done (by kernel_rfl) ?_ _
        go_wp2
        go_end0
        refine ⟨rfl, HP1.out.trans ((HH.out.same.drew).trans (OI.step HH.out.same.drew.wi ?_ ?_))⟩
        · exact (Kept.of_grown HG.out fun _ e => by cases e).follow_ou HP.out.2 fun j _ hj => .inl hj
        · refine HP.out.1.mono fun j _ hj => ?_
          have := HG.out.size
          rcases hj with h1 | ⟨h1, h2⟩
          · exact .inl (.inl h1)
          · exact .inr ⟨by omega, by simpa [World.setCell] using h2⟩
      · go_simp
        refine hK.out _ _ HR3.out (fun hHeld => ?_)
        clear hK K9
        try simp only [Act.put, List.getElem_toArray, List.getElem_cons_succ, List.getElem_cons_zero, List.setIfInBounds_toArray, List.set_cons_zero, List.set_cons_succ]
        refine wpAnyH_ready (rs := [4]) (by kernel_rfl) (by simp) ?_
        refine (AllReadyH.cons (o := _) rfl (fun K9 hK => ?_) AllReadyH.nil)
        go_simp
        refine hK.out _ _ HR3.out (fun hHeld => ?_)
        clear hK K9
        try simp only [Act.put, List.getElem_toArray, List.getElem_cons_succ, List.getElem_cons_zero, List.setIfInBounds_toArray, List.set_cons_zero, List.set_cons_succ]
        refine wpAnyH_ready (rs := [8]) (by kernel_rfl) (by simp) ?_
        refine (AllReadyH.cons (o := _) rfl (fun K9 hK => ?_) AllReadyH.nil)
        refine step_append_bytes _ (by rfl) _ _ _ (by rfl) 0 5 i0 _ Tryz.underlying61 HI.out.1 HI.out.2.1 HI.out.2.2.1 HI.out.2.2.2 rfl (.slice bA l.length bc) l.length (Lib.byteCells l) (by rfl) HY.out.2.1 (some ⟨w2.heap.size, 0, none⟩) _ x (by rfl) HY.out.1 (by have := HXL.out; omega) (Nat.zero_le _) ?_
        intro A' cap' w3 hown1 hgrow hat
        have hb3 := HY.out.2.2.1.grown hgrow (own_ne HY.out.2.1 HY.out.2.2.1 (by decide)).symm
        have f0 := hb3.frozen 0
        have d3 : w3.cell? ⟨g, 0, none⟩ = some (.slice bA l.length bc) := hb3.cell 0
        clear hb3
        have HP := Lib.hid (OutIs.pushed (F := Proofs.YtmoebkdbnldbdaaGreatDoor.upTo F w.heap.size W1.heap.size) HB.out.1 HY.out.2.2.1 HY.out.2.1 HB.out.2.2.2 hown1 hgrow hat)
        have HR4 := Lib.hid (range_blk0 (HY.out.2.2.2.grown hgrow (own_ne HY.out.2.1 HY.out.2.2.2 (by decide)).symm))
        clear hown1 hgrow hat
        refine hK.out _ _ HR4.out (fun hHeld => ?_)
        clear hK K9
        try simp only [Act.put, List.getElem_toArray, List.getElem_cons_succ, List.getElem_cons_zero, List.setIfInBounds_toArray, List.set_cons_zero, List.set_cons_succ]
        refine wpAnyH_take (i := 9) (oi := _) (v := ?vc9) rfl (by kernel_rfl) (by kernel_rfl) (by kernel_rfl) (fun _ _ _ h => h) (Or.inl ⟨by rfl, ?hyc9⟩) (by assumption) ?restc9
        case hyc9 => (intro V hSw; (try dsimp only at hSw); go_simp) <;> with_reducible rfl
        try simp only [Act.put, List.getElem_toArray, List.getElem_cons_succ, List.getElem_cons_zero, List.setIfInBounds_toArray, List.set_cons_zero, List.set_cons_succ]
        refine wpAnyH_take (i := 10) (oi := _) (v := ?vc10) rfl (by kernel_rfl) (by kernel_rfl) (by kernel_rfl) (fun _ _ _ h => h) (Or.inl ⟨by rfl, ?hyc10⟩) (by assumption) ?restc10
        case hyc10 => (intro V hSw; (try dsimp only at hSw); go_simp) <;> with_reducible rfl
        try simp only [Act.put, List.getElem_toArray, List.getElem_cons_succ, List.getElem_cons_zero, List.setIfInBounds_toArray, List.set_cons_zero, List.set_cons_succ]
        refine wpAnyH_ready (rs := [11]) (by kernel_rfl) (by simp) ?_
        refine (AllReadyH.cons (o := _) rfl (fun K9 hK => ?_) AllReadyH.nil)
        go_simp
        refine hK.out _ _ (range_set_ou HR4.out HQ.out _) (fun hHeld => ?_)
        clear hK K9
        try simp only [Act.put, List.getElem_toArray, List.getElem_cons_succ, List.getElem_cons_zero, List.setIfInBounds_toArray, List.set_cons_zero, List.set_cons_succ]
        refine wpAnyH_done (by kernel_rfl) ?_ _
        go_wp2
        go_end0
        refine ⟨rfl, HP1.out.trans ((HH.out.same.drew).trans (OI.step HH.out.same.drew.wi ?_ ?_))⟩
        · exact (Kept.of_grown HG.out fun _ e => by cases e).follow_ou HP.out.2 fun j _ hj => .inl hj
        · refine HP.out.1.mono fun j _ hj => ?_
          have := HG.out.size
          rcases hj with h1 | ⟨h1, h2⟩
          · exact .inl (.inl h1)
          · exact .inr ⟨by omega, by simpa [World.setCell] using h2⟩
  · have hr : sDig d (e0 + 1, l) = (e0 + 1, l) := rfl
    have hne : (((e0 + 1 : Nat) : Int) == 0) = false := by simp; omega
    rw [hr]
    clear hr P1 h hdd hsz bx hi hz0 hz1 hz2 hBg hb hown hF hW1 hgq g1 hd
    go_enter Tryz.func37, Tryz.ntmps37
    go_upto_region 1 with (fail)
    rw [HW.out]
    go_wp2_with fail
    go_end0
    exact ⟨rfl, HP1.out⟩
theorem onum_lit {z : Int} {k : Nat} (hz : z = (k : Int)) (h : OI w0 g F s w) (hs : s.2.length ≤ 70368744177664) {n : Int} (hmax : n ≤ 9223372036854775807) (h1 : 1 ≤ k) (h8 : k ≤ 8) :
    Calls Tryz.prog 36 #[.pointer (some ⟨g, 0, none⟩), .int .i64 n, .int .i64 z] w fun e w' => e = .returned (.tuple #[]) ∧ OP w0 g F (sNum n z s) w w' := by
  subst hz
  exact onum_st h hs n hmax k h1 h8
/-- How many elements, 'most' at most. -/
def sMany (n : Nat) (most : Int) (s : WSt) : WSt := if most < (n : Int) then sFail 1 s else sNum (n : Int) 1 s
set_option maxRecDepth 100000 in
set_option maxHeartbeats 1000000 in
theorem omany_st (h : OI w0 g F s w) (hs : s.2.length ≤ 70368744177664) (n : Nat) (hn : n ≤ 1000000) (most : Nat) (hm : most ≤ 255) :
    Calls Tryz.prog 39 #[.pointer (some ⟨g, 0, none⟩), .int .i64 (n : Int), .int .i64 (most : Int)] w fun e w' => e = .returned (.tuple #[]) ∧ OP w0 g F (sMany n (most : Int) s) w w' := by
  obtain ⟨e0, l⟩ := s
  obtain ⟨hBg, bA, bc, hb, hown, hF⟩ := h.wr
  have c0 := hb.cell 0
  have c1 := hb.cell 1
  simp at c0 c1
  simp only at hs
  rcases e0 with _ | e0
  · by_cases hlt : (most : Int) < (n : Int)
    · have hr : sMany n (most : Int) (0, l) = (1, l) := by unfold sMany sFail; rw [if_pos hlt]; rfl
      have hb1 : decide (most < n) = true := by simpa using hlt
      have f1 := hb.frozen 1
      have hP : OP w0 g F (1, l) w (w.setCell ⟨g, 1, none⟩ (.int .i64 1)) := h.step ((Kept.refl F w).set (.inl hBg) _) ⟨.inl hBg, bA, bc, by simpa using hb.set 1 (.int .i64 1), own_far hown hb (by decide) 1 _, fun ad e => .inl (hF ad e)⟩
      have HN := Lib.hid (onum_lit (n := (n : Int)) (z := 1) (k := 1) rfl hP.wi hs (by omega) (by omega) (by omega))
      have HP := Lib.hid hP
      have hsn : sNum (n : Int) 1 (1, l) = (1, l) := by unfold sNum; split <;> rfl
      have HSN := Lib.hid hsn
      rw [hr]
      clear hP hr hsn h hb hown hF hBg hs hn hm hlt
      go_enter Tryz.func39, Tryz.ntmps39
      go_wp2_with fail
      refine HN.out.mono ?_
      rintro e w1 ⟨rfl, q⟩
      have Q := Lib.hid q
      clear q
      go_wp2_with fail
      go_end0
      refine ⟨rfl, HP.out.trans ?_⟩
      have := Q.out
      rwa [HSN.out] at this
    · have hr : sMany n (most : Int) (0, l) = sNum (n : Int) 1 (0, l) := by unfold sMany; rw [if_neg hlt]
      have hb1 : decide (most < n) = false := by simpa using hlt
      have HN := Lib.hid (onum_lit (n := (n : Int)) (z := 1) (k := 1) rfl h hs (by omega) (by omega) (by omega))
      rw [hr]
      clear hr h hb hown hF hBg hs hn hm hlt
      go_enter Tryz.func39, Tryz.ntmps39
      go_wp2_with fail
      refine HN.out.mono ?_
      rintro e w1 ⟨rfl, q⟩
      have Q := Lib.hid q
      clear q
      go_wp2_with fail
      go_end0
      exact ⟨rfl, Q.out⟩
  · have hr : sMany n (most : Int) (e0 + 1, l) = (e0 + 1, l) := by
      unfold sMany sNum
      split
      · rfl
      · split <;> rfl
    have hr2 : sNum (n : Int) 1 (e0 + 1, l) = (e0 + 1, l) := by unfold sNum; split <;> rfl
    have hne : (((e0 + 1 : Nat) : Int) == 0) = false := by simp; omega
    have HN := Lib.hid (onum_lit (n := (n : Int)) (z := 1) (k := 1) rfl h hs (by omega) (by omega) (by omega))
    have HR := Lib.hid hr2
    rw [hr]
    clear hr hr2 h hb hown hF hBg hs hn hm
    go_enter Tryz.func39, Tryz.ntmps39
    go_wp2_with fail
    refine HN.out.mono ?_
    rintro e w1 ⟨rfl, q⟩
    have Q := Lib.hid q
    clear q
    go_wp2_with fail
    go_end0
    refine ⟨rfl, ?_⟩
    have := Q.out
    rwa [HR.out] at this
end
end Go.Proofs.YtmoebkdbnldbdaaGreatDoor
/-
  The document's own bytes and id of a block without lists.
-/
namespace Go.Proofs.YtmoebkdbnldbdaaGreatDoor
open Go.RowKit

theorem sz_QCo : (Tryz.prog.info? 46).map (·.size) = some 19 := by kernel_rfl
section
variable {w0 w w' w'' : World} {g : Nat} {F : Nat → Prop} {s s' : WSt}
theorem omany_lit {zn zm : Int} {n most : Nat} (hz : zn = (n : Int)) (hm : zm = (most : Int)) (h : OI w0 g F s w) (hs : s.2.length ≤ 70368744177664) (hn : n ≤ 1000000) (hmo : most ≤ 255) :
    Calls Tryz.prog 39 #[.pointer (some ⟨g, 0, none⟩), .int .i64 zn, .int .i64 zm] w fun e w' => e = .returned (.tuple #[]) ∧ OP w0 g F (sMany n zm s) w w' := by
  subst hz hm
  exact omany_st h hs n hn most hmo
theorem adds_lit {z : Int} {k : Nat} (hz : z = (k : Int)) (n : Int) (s : WSt) : (sNum n z s).2.length ≤ s.2.length + k := by
  subst hz
  exact adds_num n k s
theorem adds_many (n : Nat) (most : Int) (s : WSt) : (sMany n most s).2.length ≤ s.2.length + 1 := by
  unfold sMany
  split
  · have := adds_fail 1 0 s
    omega
  · exact adds_num (n : Int) 1 s
set_option maxRecDepth 100000 in
set_option maxHeartbeats 1000000 in
theorem oqc0_st (w : World) (F : Nat → Prop) (s : WSt) (h : OI w0 g F s w) (hs : s.2.length ≤ 900000) (a b : Int) (ha : a ≤ 9223372036854775807) (hb : b ≤ 9223372036854775807) (d : List Int) (hd : isDig d) (A : Option Addr) (c : Nat) (cs : Array Value) (hcs : cs = #[.int .i64 a, .int .i64 b] ++ (arrV .u8 d ++ #[.slice A 0 c])) :
    Calls Tryz.prog 38 #[.pointer (some ⟨g, 0, none⟩), .agg cs] w fun e w' => e = .returned (.tuple #[]) ∧ OP w0 g F ((fun s => sMany 0 7 (sDig d (sNum b 6 (sNum a 4 s)))) s) w w' := by
  obtain ⟨kd, hkd⟩ : ∃ kd, kd = arrV .u8 d := ⟨_, rfl⟩
  have hks : kd.size = 16 := by rw [hkd, arr_size, hd.1]
  have hcl : cs.toList = [.int .i64 a, .int .i64 b] ++ (kd.toList ++ [.slice A 0 c]) := by rw [hcs, hkd]; simp
  have H3 := Lib.hid (And.intro hks (And.intro hkd hd))
  have HI := Lib.hid (And.intro ha hb)
  obtain ⟨W1, hW1⟩ : ∃ W1, w.alloc (.cells cs 46) = W1 := ⟨_, rfl⟩
  have g1 : w.grownBy W1 none := by rw [← hW1]; exact World.grownBy_alloc _ _ none
  have bx : Blk W1 w.heap.size 46 cs := by rw [← hW1]; exact Blk.new w _ _
  have hi := h.opened g1
  have HCl := Lib.hid (fun (w2 : World) (s2 : WSt) (P : OP w0 g (fun k => F k ∧ k < w.heap.size) s2 W1 w2) => OP.closed (F := F) h g1 P)
  have HB := Lib.hid (fun (V : World) (s' : WSt) (P : OP w0 g (fun k => F k ∧ k < w.heap.size) s' W1 V) => (show V.cell? ⟨w.heap.size, 0, none⟩ = some (.int .i64 a) ∧ V.cell? ⟨w.heap.size, 1, none⟩ = some (.int .i64 b) ∧ V.rangeAt w.heap.size 2 kd.toList ∧ V.cell? ⟨w.heap.size, 18, none⟩ = some (.slice A 0 c) from
    by
      have bx : Blk V w.heap.size 46 cs := bx.kept P.fine (fun h => absurd h.2 (by omega))
      have r := range_blk0 bx
      exact ⟨by have := r 0 (.int .i64 a) (by rw [hcl]; rfl); simpa using this, by have := r 1 (.int .i64 b) (by rw [hcl]; rfl); simpa using this, by rw [hcl] at r; have := range_seg r; simpa using this, by have := r 18 (.slice A 0 c) (by rw [hcl, List.getElem?_append_right (by simp), List.getElem?_append_right (by simp [hks])]; simp [hks]); simpa using this⟩))
  have HP0 := Lib.hid hi.same
  have HS0 := Lib.hid hs
  have HW := Lib.hid hW1
  clear h hi bx g1 hW1 hs hcs hks hkd hcl hd ha hb
  go_enter Tryz.func38, Tryz.ntmps38
  go_upto_region 1 with (fail)
  rw [HW.out]
  obtain ⟨k0, k1, k2, k3⟩ := HB.out _ _ HP0.out
  clear k1 k2 k3
  go_wp2_with fail
  refine (onum_lit (z := 4) (k := 4) rfl HP0.out.wi (Nat.le_trans HS0.out (by omega)) (n := a) HI.out.1 (by omega) (by omega)).mono ?_
  rintro e V1 ⟨rfl, q0⟩
  have HP1 := Lib.hid (HP0.out.trans q0)
  clear q0 k0
  have HS1 := Lib.hid (show (sNum a 4 (s)).2.length ≤ 901000 from by have h1 := adds_lit (z := 4) (k := 4) rfl (a) (s); have h2 := HS0.out; omega)
  obtain ⟨k0, k1, k2, k3⟩ := HB.out _ _ HP1.out
  clear k0 k2 k3
  go_wp2_with fail
  refine (onum_lit (z := 6) (k := 6) rfl HP1.out.wi (Nat.le_trans HS1.out (by omega)) (n := b) HI.out.2 (by omega) (by omega)).mono ?_
  rintro e V2 ⟨rfl, q1⟩
  have HP2 := Lib.hid (HP1.out.trans q1)
  clear q1 k1
  have HS2 := Lib.hid (show (sNum b 6 (sNum a 4 (s))).2.length ≤ 902000 from by have h1 := adds_lit (z := 6) (k := 6) rfl (b) (sNum a 4 (s)); have h2 := HS1.out; omega)
  obtain ⟨k0, k1, k2, k3⟩ := HB.out _ _ HP2.out
  clear k0 k1 k3
  have HR := Lib.hid k2
  clear k2
  go_wp2_with (refine wpList_load_mid rfl 24 _ rfl w.heap.size 2 rfl (kd.toList) _ HR.out Tryz.underlying24 rfl (by rw [Array.length_toList, H3.out.1]; exact sz_Dg) ?_; rw [Array.toArray_toList])
  refine (odig_st HP2.out.wi (Nat.le_trans HS2.out (by omega)) d H3.out.2.2 kd H3.out.2.1).mono ?_
  rintro e V3 ⟨rfl, q2⟩
  have HP3 := Lib.hid (HP2.out.trans q2)
  clear q2
  have HS3 := Lib.hid (show (sDig d (sNum b 6 (sNum a 4 (s)))).2.length ≤ 903000 from by have h1 := adds_dig H3.out.2.2.1 (sNum b 6 (sNum a 4 (s))); have h2 := HS2.out; omega)
  obtain ⟨k0, k1, k2, k3⟩ := HB.out _ _ HP3.out
  clear k0 k1 k2
  go_wp2_with fail
  refine (omany_lit (zn := 0) (n := 0) rfl (zm := 7) (most := 7) rfl HP3.out.wi (Nat.le_trans HS3.out (by omega)) (by omega) (by omega)).mono ?_
  rintro e V4 ⟨rfl, q3⟩
  have HP4 := Lib.hid (HP3.out.trans q3)
  clear q3 k3
  obtain ⟨k0, k1, k2, k3⟩ := HB.out _ _ HP4.out
  clear k0 k1 k2
  go_wp2_with fail
  go_loopw [26] (fun i wr => i = .int .i64 0 ∧ wr = V4) (fun _ _ => 0)
  case atStart => exact ⟨rfl, rfl⟩
  case round =>
    obtain ⟨rfl, rfl⟩ := hrel
    go_wp2_with fail
    go_end0
    exact ⟨rfl, HCl.out _ _ HP4.out⟩
set_option maxRecDepth 100000 in
set_option maxHeartbeats 1000000 in
theorem oblk0_st (w : World) (F : Nat → Prop) (s : WSt) (h : OI w0 g F s w) (hs : s.2.length ≤ 800000) (a : Int) (ha : a ≤ 9223372036854775807) (p : List Int) (hp : isDig p) (cs : Array Value) (hcs : cs = genV a (arrV .u8 p)) :
    Calls Tryz.prog 26 #[.pointer (some ⟨g, 0, none⟩), .agg cs] w fun e w' => e = .returned (.tuple #[]) ∧ OP w0 g F ((fun s => sMany 0 7 (sMany 0 4 (sMany 0 7 (sDig (List.replicate 16 0) (sNum 0 6 (sNum 0 4 (sDig p (sNum 0 6 (sNum a 4 s))))))))) s) w w' := by
  obtain ⟨kd, hkd⟩ : ∃ kd, kd = arrV .u8 p := ⟨_, rfl⟩
  obtain ⟨qv, hqv⟩ : ∃ qv, qv = (#[.int .i64 0, .int .i64 0] : Array Value) ++ (arrV .u8 (List.replicate 16 0) ++ #[.slice none 0 0]) := ⟨_, rfl⟩
  have hks : kd.size = 16 := by rw [hkd, arr_size, hp.1]
  have hqs : qv.size = 19 := by rw [hqv]; simp [arr_size]
  have hcl : cs.toList = [.int .i64 a, .int .i64 0] ++ (kd.toList ++ (qv.toList ++ [.slice none 0 0, .slice none 0 0])) := by rw [hcs, hkd, hqv]; simp [genV]
  have hcl2 : cs.toList = ([.int .i64 a, .int .i64 0] ++ kd.toList) ++ (qv.toList ++ [.slice none 0 0, .slice none 0 0]) := by rw [hcl]; simp
  have hl18 : ([Value.int .i64 a, Value.int .i64 0] ++ kd.toList).length = 18 := by simp [hks]
  have H3 := Lib.hid (And.intro hks (And.intro hkd (And.intro hqs (And.intro hqv (And.intro hp ha)))))
  obtain ⟨W1, hW1⟩ : ∃ W1, w.alloc (.cells cs 49) = W1 := ⟨_, rfl⟩
  have g1 : w.grownBy W1 none := by rw [← hW1]; exact World.grownBy_alloc _ _ none
  have bx : Blk W1 w.heap.size 49 cs := by rw [← hW1]; exact Blk.new w _ _
  have hi := h.opened g1
  have HCl := Lib.hid (fun (w2 : World) (s2 : WSt) (P : OP w0 g (fun k => F k ∧ k < w.heap.size) s2 W1 w2) => OP.closed (F := F) h g1 P)
  have HB := Lib.hid (fun (V : World) (s' : WSt) (P : OP w0 g (fun k => F k ∧ k < w.heap.size) s' W1 V) => (show V.cell? ⟨w.heap.size, 0, none⟩ = some (.int .i64 a) ∧ V.cell? ⟨w.heap.size, 1, none⟩ = some (.int .i64 0) ∧ V.rangeAt w.heap.size 2 kd.toList ∧ V.rangeAt w.heap.size 18 qv.toList ∧ V.cell? ⟨w.heap.size, 37, none⟩ = some (.slice none 0 0) ∧ V.cell? ⟨w.heap.size, 38, none⟩ = some (.slice none 0 0) from
    by
      have bx : Blk V w.heap.size 49 cs := bx.kept P.fine (fun h => absurd h.2 (by omega))
      have r := range_blk0 bx
      exact ⟨by have := r 0 (.int .i64 a) (by rw [hcl]; rfl); simpa using this, by have := r 1 (.int .i64 0) (by rw [hcl]; rfl); simpa using this, by rw [hcl] at r; have := range_seg r; simpa using this, by rw [hcl2] at r; have := range_seg r; rw [hl18] at this; simpa using this, by have := r 37 (.slice none 0 0) (by rw [hcl2, List.getElem?_append_right (by rw [hl18]; omega), hl18, List.getElem?_append_right (by simp [hqs])]; simp [hqs]); simpa using this, by have := r 38 (.slice none 0 0) (by rw [hcl2, List.getElem?_append_right (by rw [hl18]; omega), hl18, List.getElem?_append_right (by simp [hqs])]; simp [hqs]); simpa using this⟩))
  have HP0 := Lib.hid hi.same
  have HS0 := Lib.hid hs
  have HW := Lib.hid hW1
  clear h hi bx g1 hW1 hs hcs hks hkd hcl hcl2 hl18 hp ha hqs hqv
  go_enter Tryz.func26, Tryz.ntmps26
  go_upto_region 1 with (fail)
  rw [HW.out]
  obtain ⟨k0, k1, k2, k3, k4, k5⟩ := HB.out _ _ HP0.out
  clear k1 k2 k3 k4 k5
  go_wp2_with fail
  refine (onum_lit (z := 4) (k := 4) rfl HP0.out.wi (Nat.le_trans HS0.out (by omega)) (n := a) H3.out.2.2.2.2.2 (by omega) (by omega)).mono ?_
  rintro e V1 ⟨rfl, q0⟩
  have HP1 := Lib.hid (HP0.out.trans q0)
  clear q0 k0
  have HS1 := Lib.hid (show (sNum a 4 (s)).2.length ≤ 801000 from by have h1 := adds_lit (z := 4) (k := 4) rfl (a) (s); have h2 := HS0.out; omega)
  obtain ⟨k0, k1, k2, k3, k4, k5⟩ := HB.out _ _ HP1.out
  clear k0 k2 k3 k4 k5
  go_wp2_with fail
  refine (onum_lit (z := 6) (k := 6) rfl HP1.out.wi (Nat.le_trans HS1.out (by omega)) (n := 0) (by omega) (by omega) (by omega)).mono ?_
  rintro e V2 ⟨rfl, q1⟩
  have HP2 := Lib.hid (HP1.out.trans q1)
  clear q1 k1
  have HS2 := Lib.hid (show (sNum 0 6 (sNum a 4 (s))).2.length ≤ 802000 from by have h1 := adds_lit (z := 6) (k := 6) rfl (0) (sNum a 4 (s)); have h2 := HS1.out; omega)
  obtain ⟨k0, k1, k2, k3, k4, k5⟩ := HB.out _ _ HP2.out
  clear k0 k1 k3 k4 k5
  have HR := Lib.hid k2
  clear k2
  go_wp2_with (refine wpList_load_mid rfl 24 _ rfl w.heap.size 2 rfl (kd.toList) _ HR.out Tryz.underlying24 rfl (by rw [Array.length_toList, H3.out.1]; exact sz_Dg) ?_; rw [Array.toArray_toList])
  refine (odig_st HP2.out.wi (Nat.le_trans HS2.out (by omega)) p H3.out.2.2.2.2.1 kd H3.out.2.1).mono ?_
  rintro e V3 ⟨rfl, q2⟩
  have HP3 := Lib.hid (HP2.out.trans q2)
  clear q2
  have HS3 := Lib.hid (show (sDig p (sNum 0 6 (sNum a 4 (s)))).2.length ≤ 803000 from by have h1 := adds_dig H3.out.2.2.2.2.1.1 (sNum 0 6 (sNum a 4 (s))); have h2 := HS2.out; omega)
  obtain ⟨k0, k1, k2, k3, k4, k5⟩ := HB.out _ _ HP3.out
  clear k0 k1 k2 k4 k5
  have HR := Lib.hid k3
  clear k3
  go_wp2_with (refine wpList_load_mid rfl 46 _ rfl w.heap.size 18 rfl (qv.toList) _ HR.out Tryz.underlying46 rfl (by rw [Array.length_toList, H3.out.2.2.1]; exact sz_QCo) ?_; rw [Array.toArray_toList])
  refine (oqc0_st _ _ _ HP3.out.wi (Nat.le_trans HS3.out (by omega)) 0 0 (by omega) (by omega) _ zeroC_dig none 0 qv H3.out.2.2.2.1).mono ?_
  rintro e V4 ⟨rfl, q3⟩
  have HP4 := Lib.hid (HP3.out.trans q3)
  clear q3
  have HS4 := Lib.hid (show ((sMany 0 7 (sDig (List.replicate 16 0) (sNum 0 6 (sNum 0 4 (sDig p (sNum 0 6 (sNum a 4 (s))))))))).2.length ≤ 804000 from by have h1 := adds_many 0 7 (sDig (List.replicate 16 0) (sNum 0 6 (sNum 0 4 (sDig p (sNum 0 6 (sNum a 4 (s))))))); have h2 := adds_dig (d := List.replicate 16 0) rfl (sNum 0 6 (sNum 0 4 (sDig p (sNum 0 6 (sNum a 4 (s)))))); have h3 := adds_lit (z := 6) (k := 6) rfl 0 (sNum 0 4 (sDig p (sNum 0 6 (sNum a 4 (s))))); have h4 := adds_lit (z := 4) (k := 4) rfl 0 (sDig p (sNum 0 6 (sNum a 4 (s)))); have h5 := HS3.out; omega)
  obtain ⟨k0, k1, k2, k3, k4, k5⟩ := HB.out _ _ HP4.out
  clear k0 k1 k2 k3 k5
  go_wp2_with fail
  refine (omany_lit (zn := 0) (n := 0) rfl (zm := 4) (most := 4) rfl HP4.out.wi (Nat.le_trans HS4.out (by omega)) (by omega) (by omega)).mono ?_
  rintro e V5 ⟨rfl, q4⟩
  have HP5 := Lib.hid (HP4.out.trans q4)
  clear q4 k4
  have HS5 := Lib.hid (show (sMany 0 4 (sMany 0 7 (sDig (List.replicate 16 0) (sNum 0 6 (sNum 0 4 (sDig p (sNum 0 6 (sNum a 4 (s))))))))).2.length ≤ 805000 from by have h1 := adds_many 0 4 (sMany 0 7 (sDig (List.replicate 16 0) (sNum 0 6 (sNum 0 4 (sDig p (sNum 0 6 (sNum a 4 (s)))))))); have h2 := HS4.out; omega)
  obtain ⟨k0, k1, k2, k3, k4, k5⟩ := HB.out _ _ HP5.out
  clear k0 k1 k2 k3 k5
  go_wp2_with fail
  go_loopw [32] (fun i wr => i = .int .i64 0 ∧ wr = V5) (fun _ _ => 0)
  case atStart => exact ⟨rfl, rfl⟩
  case round =>
    obtain ⟨rfl, rfl⟩ := hrel
    clear k4
    obtain ⟨k0, k1, k2, k3, k4, k5⟩ := HB.out _ _ HP5.out
    clear k0 k1 k2 k3 k4
    go_wp2_with fail
    refine (omany_lit (zn := 0) (n := 0) rfl (zm := 7) (most := 7) rfl HP5.out.wi (Nat.le_trans HS5.out (by omega)) (by omega) (by omega)).mono ?_
    rintro e V6 ⟨rfl, q5⟩
    have HP6 := Lib.hid (HP5.out.trans q5)
    clear q5 k5
    obtain ⟨k0, k1, k2, k3, k4, k5⟩ := HB.out _ _ HP6.out
    clear k0 k1 k2 k3 k4
    go_wp2_with fail
    go_loopw [76] (fun i wr => i = .int .i64 0 ∧ wr = V6) (fun _ _ => 0)
    case atStart => exact ⟨rfl, rfl⟩
    case round =>
      obtain ⟨rfl, rfl⟩ := hrel
      go_wp2_with fail
      go_end0
      exact ⟨rfl, HCl.out _ _ HP6.out⟩
end
end Go.Proofs.YtmoebkdbnldbdaaGreatDoor
/-
  The document's own bytes and id of an epoch's first block.
-/
namespace Go.Proofs.YtmoebkdbnldbdaaGreatDoor
open Go.RowKit

theorem sMany_zero {most : Int} (hm : 0 ≤ most) (s : WSt) : sMany 0 most s = sNum 0 1 s := by
  unfold sMany
  rw [if_neg (by omega)]
  rfl
theorem genS_many (e : Int) (p : List Int) (s : WSt) : sMany 0 7 (sMany 0 4 (sMany 0 7 (sDig (List.replicate 16 0) (sNum 0 6 (sNum 0 4 (sDig p (sNum 0 6 (sNum e 4 s)))))))) = sBk (genB e p) s := by
  rw [genS_is, sMany_zero (by omega), sMany_zero (by omega), sMany_zero (by omega)]
  rfl
theorem out_build (w : World) : Sem.run Tryz.prog (Instr.build 76 #[]) w = .ok (.agg #[.slice none 0 0, .int .i64 0]) w := by
  refine run_build w 76 _ _ ?_
  kernel_rfl
theorem sz_Bko : (Tryz.prog.info? 49).map (·.size) = some 39 := by kernel_rfl
theorem genV_size (e : Int) {D : Array Value} (h : D.size = 16) : (genV e D).size = 39 := by simp [genV, h, arr_size]
theorem odone_ok {w : World} {F : Nat → Prop} {g : Nat} {l : List UInt8} (h : OutIs w F g (0, l)) :
    Calls Tryz.prog 27 #[.pointer (some ⟨g, 0, none⟩)] w fun e w' => w = w' ∧ ∃ A c, e = .returned (.tuple #[.slice A l.length c, .int .i64 0]) ∧ l.length ≤ c ∧ BytesAt w A l := by
  obtain ⟨_, bA, bc, hb, hown, _⟩ := h
  have c0 := hb.cell 0
  have c1 := hb.cell 1
  simp at c0 c1
  have HO := Lib.hid (And.intro (own_cap hown) (own_bytesAt hown))
  clear hb hown
  go_enter Tryz.func27, Tryz.ntmps27
  go_wp2_with fail
  go_ret2
  exact ⟨rfl, bA, bc, rfl, HO.out.1, HO.out.2⟩
set_option maxRecDepth 100000 in
set_option maxHeartbeats 1000000 in
theorem rbytes_gen (w : World) (a : Int) (h0 : 0 ≤ a) (ha : a < 4294967296) (p : List Int) (hp : isDig p) (cs : Array Value) (hcs : cs = genV a (arrV .u8 p)) :
    Calls Tryz.prog 17 #[.agg cs] w fun e w' => w.grownBy w' none ∧ ∃ A c, e = .returned (.tuple #[.slice A (bkS (genB a p)).2.length c, .int .i64 0]) ∧ (bkS (genB a p)).2.length ≤ c ∧ BytesAt w' A (bkS (genB a p)).2 := by
  have hob := out_build
  have hsz : cs.size = 39 := by rw [hcs]; exact genV_size a (by rw [arr_size, hp.1])
  obtain ⟨W2, hW2⟩ : ∃ W2, (w.alloc (.cells cs 49)).alloc (.cells #[.slice none 0 0, .int .i64 0] 76) = W2 := ⟨_, rfl⟩
  have g2 : w.grownBy W2 none := by rw [← hW2]; exact grown_trans (World.grownBy_alloc _ _ none) (World.grownBy_alloc _ _ none)
  have bx : Blk W2 w.heap.size 49 cs := by rw [← hW2]; exact (Blk.new w _ _).alloc _
  have bo : Blk W2 (w.heap.size + 1) 76 #[.slice none 0 0, .int .i64 0] := by
    have := Blk.new (w.alloc (.cells cs 49)) 76 #[.slice none 0 0, .int .i64 0]
    rw [← hW2]; simpa using this
  have hi : OI w (w.heap.size + 1) (fun k => w.heap.size + 1 ≤ k) (0, []) W2 :=
    ⟨⟨Nat.le_refl _, none, 0, bo, World.ownsRow_nil _ _ _ _, fun _ h => by cases h⟩, fun k hk => by omega, Kept.of_grown g2 fun _ e => by cases e⟩
  have HB := Lib.hid (oblk0_st W2 _ _ hi (by simp) a (by omega) p hp cs hcs)
  have HX := Lib.hid (And.intro hsz (range_blk0 bx))
  have HW := Lib.hid hW2
  have HG := Lib.hid g2
  obtain ⟨l, hl⟩ : ∃ l, bkS (genB a p) = (0, l) := ⟨(bkS (genB a p)).2, by rw [← (gen_ok hp.1 h0 ha).1]⟩
  have HK := Lib.hid (show sBk (genB a p) (0, []) = (0, l) from hl)
  rw [hl]
  clear hi hsz bx bo g2 hW2 hcs hl
  go_enter Tryz.func17, Tryz.ntmps17
  go_upto_region 2 with (fail)
  rw [HW.out]
  go_wp2_with (refine wpList_load_mid rfl 49 _ rfl w.heap.size 0 rfl cs.toList _ HX.out.2 Tryz.underlying49 rfl (by rw [Array.length_toList, HX.out.1]; exact sz_Bko) ?_; rw [Array.toArray_toList])
  refine HB.out.mono ?_
  rintro e W3 ⟨rfl, P⟩
  obtain ⟨F9, hP⟩ : ∃ F9, OI w (w.heap.size + 1) F9 (0, l) W3 := ⟨_, by
    have := P.wi
    rw [genS_many, HK.out] at this
    exact this⟩
  have g3 : w.grownBy W3 none := hP.kept.grownNone fun k hk hn => by show False; exact absurd hk (by simpa using hn)
  have HD := Lib.hid (And.intro (odone_ok hP.wr) g3)
  clear P hP g3
  go_wp2_with fail
  refine HD.out.1.mono ?_
  rintro e W4 ⟨rfl, A, c, rfl, hc, hb⟩
  have HE := Lib.hid (And.intro hc hb)
  clear hc hb
  go_wp2_with fail
  go_ret2
  exact ⟨HD.out.2, A, c, rfl, HE.out.1, HE.out.2⟩
set_option maxRecDepth 100000 in
set_option maxHeartbeats 1000000 in
/-- The document's id of an epoch's first block. -/
theorem rid_gen (w : World) (a : Int) (h0 : 0 ≤ a) (ha : a < 4294967296) (p : List Int) (hp : isDig p) (cs : Array Value) (hcs : cs = genV a (arrV .u8 p)) (dv : Array Value) (hdv : dv = arrV .u8 (idD (genB a p))) :
    Calls Tryz.prog 9 #[.agg cs] w fun e w' => e = .returned (.tuple #[.agg dv, .int .i64 0]) ∧ w.grownBy w' none := by
  obtain ⟨Z, hZ⟩ : ∃ Z, Z = arrV .u8 (List.replicate 16 0) := ⟨_, rfl⟩
  have hz : ∀ w, Sem.run Tryz.prog (zeroValue 24) w = .ok (.agg Z) w := fun w => by rw [hZ]; exact z16run w
  have hZ16 : Z.size = 16 := by rw [hZ]; rfl
  have hd16 : dv.size = 16 := by rw [hdv, arr_size, idD_length]
  have hd1 : (dv.all fun v => v.oneCell') = true := by rw [hdv]; exact arr_one _ _
  have hsz : cs.size = 39 := by rw [hcs]; exact genV_size a (by rw [arr_size, hp.1])
  obtain ⟨W1, hW1⟩ : ∃ W1, (w.alloc (.cells cs 49)).alloc (.cells Z 24) = W1 := ⟨_, rfl⟩
  have g1 : w.grownBy W1 none := by rw [← hW1]; exact grown_trans (World.grownBy_alloc _ _ none) (World.grownBy_alloc _ _ none)
  have bx : Blk W1 w.heap.size 49 cs := by rw [← hW1]; exact (Blk.new w _ _).alloc _
  have bd : Blk W1 (w.heap.size + 1) 24 Z := by
    have := Blk.new (w.alloc (.cells cs 49)) 24 Z
    rw [← hW1]; simpa using this
  obtain ⟨hk0, hkl⟩ := gen_ok hp.1 h0 ha
  obtain ⟨L, hL⟩ : ∃ L, (bkS (genB a p)).2 = L := ⟨_, rfl⟩
  have HR := Lib.hid (rbytes_gen W1 a h0 ha p hp cs hcs)
  have hid : idD (genB a p) = ofS 6 [intsB L] := by rw [idD_ok hk0, hL]
  rw [hL] at HR hkl
  obtain ⟨S, hS⟩ : ∃ S : ByteArray, xsOf S = intsB L := ⟨⟨L.toArray⟩, xsOf_mk L⟩
  have hSs : S.size = 55 := by
    have := congrArg List.length hS
    rw [xsOf_length, intsB, List.length_map, hkl] at this
    exact this
  have HX := Lib.hid (And.intro hsz (range_blk0 bx))
  have HS := Lib.hid (And.intro hS (And.intro hSs hkl))
  have HD := Lib.hid (And.intro (hdv.trans (by rw [hid])) (And.intro hd16 (And.intro hd1 hZ16)))
  have HW := Lib.hid hW1
  have HG := Lib.hid (And.intro g1 bd)
  clear hsz bx hS hSs hkl hdv hd16 hd1 hZ16 hW1 g1 bd hid hk0 hL hcs hZ
  go_enter Tryz.func9, Tryz.ntmps9
  go_upto_region 1 with (fail)
  rw [HW.out]
  go_wp2_with (refine wpList_load_mid rfl 49 _ rfl w.heap.size 0 rfl cs.toList _ HX.out.2 Tryz.underlying49 rfl (by rw [Array.length_toList, HX.out.1]; exact sz_Bko) ?_; rw [Array.toArray_toList])
  refine HR.out.mono ?_
  rintro e W2 ⟨g2, A, c, rfl, hc, hb⟩
  have hcv := str_run W2 A L.length c S (by rw [HS.out.2.1, HS.out.2.2]) (by rw [HS.out.1]; exact BytesI.of hb)
  obtain ⟨W3, hW3⟩ : ∃ W3, W2.alloc (.cells #[.string S] 9) = W3 := ⟨_, rfl⟩
  have g3 : W2.grownBy W3 none := by rw [← hW3]; exact World.grownBy_alloc _ _ none
  have b3 : Blk W3 W2.heap.size 9 #[.string S] := by rw [← hW3]; exact Blk.new _ _ _
  have HO := Lib.hid (rof_is W3 6 (some ⟨W2.heap.size, 0, none⟩) 1 1 [S] rfl (fun j hj => by
      obtain rfl : j = 0 := by simpa using hj
      exact ⟨_, rfl, by rw [Go.WideShapes.add_plain, b3.cell]; rfl⟩) (by omega) (fun t ht => by obtain rfl := List.mem_singleton.1 ht; rw [HS.out.2.1]; omega) (by
      have := framedL_le 6 55 ([S].map xsOf) (fun q hq => by
        obtain rfl := List.mem_singleton.1 hq
        rw [xsOf_length, HS.out.2.1]; omega)
      simp only [List.map_cons, List.map_nil, List.length_cons, List.length_nil] at this ⊢
      omega))
  have HW3 := Lib.hid hW3
  have HG3 := Lib.hid (And.intro (grown_trans (grown_trans HG.out.1 g2) g3) (HG.out.2.grown (grown_trans g2 g3) (by simp)))
  have hv : arrV .u8 (ofS 6 ([S].map xsOf)) = dv := by rw [HD.out.1]; simp [HS.out.1]
  rw [hv] at HO
  clear g2 g3 hc hb b3 hW3 hv
  go_wp2_with fail
  rw [HW3.out]
  refine HO.out.mono ?_
  rintro e W4 ⟨rfl, g4⟩
  have HG4 := Lib.hid (And.intro (grown_trans HG3.out.1 g4) (HG3.out.2.grown g4 (by simp)))
  clear g4
  go_wp2_with (refine wpList_store_row rfl 24 _ _ rfl (w.heap.size + 1) dv rfl rfl 24 _ HG4.out.2 (by rw [HD.out.2.1]; exact sz_Dg) (by rw [HD.out.2.1, HD.out.2.2.2]) HD.out.2.2.1 ?_)
  refine bodyPost_ret (results_cell_t rfl _ _ _ ⟨w.heap.size + 1, 0, none⟩ (.agg dv) rfl (run_loadVar_row _ (w.heap.size + 1) 24 24 _ (0, 0) _ (HG4.out.2.row _) Tryz.underlying24 rfl (by rw [HD.out.2.1]; exact sz_Dg))) rfl ?_
  exact ⟨rfl, grown_row HG4.out.1 (.inl (by omega)) _⟩
end Go.Proofs.YtmoebkdbnldbdaaGreatDoor
