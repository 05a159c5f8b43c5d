/-
  Several texts in one: ShConv, OuD.
-/
import Derived.Test.YtpdfkgmgmndcfaaGreatDoorM20n
import Derived.Test.YtpdfkgmgmndcfaaGreatDoorM20c
import Derived.Lib.ConvBytes
import Derived.Test.YtpdfkgmgmndcfaaGreatDoorM20L
import Derived.Test.YtpdfkgmgmndcfaaGreatDoorM20w
import Derived.Test.YtpdfkgmgmndcfaaGreatDoorM20r
import Derived.Test.YtpdfkgmgmndcfaaGreatDoorM20v
/-
  A string's bytes.
-/
namespace Go.Proofs.YtpdfkgmgmndcfaaGreatDoor
open Go.RowKit

theorem conv_is (w : World) (s : ByteArray) : ∃ c w', (∀ t, t = w → Sem.run Tryz.prog (convert 9 60 (.string s)) t = .ok (.slice (some ⟨w.heap.size, 0, none⟩) s.size c) w') ∧ s.size ≤ c ∧ BytesI w' (some ⟨w.heap.size, 0, none⟩) (intsB s.data.toList) ∧ w.grownBy w' none ∧ w.heap.size < w'.heap.size := by
  refine ⟨_, _, fun t e => by rw [e]; exact Lib.run_convert_string_bytes w 9 60 5 s Tryz.underlying9 Tryz.underlying60 Tryz.underlying5, grownCap_ge _ _ _ _, fun _ => ⟨_, rfl, fun j hj => ?_⟩, ⟨?_, ?_, ?_, ?_, ?_⟩, ?_⟩
  · rw [intsB_length] at hj
    rw [show (⟨w.heap.size, 0, none⟩ : Addr).add j = ⟨w.heap.size, j, none⟩ by have := add_none w.heap.size 0 j; rwa [Nat.zero_add] at this]
    have hj2 : j < s.size := by rw [Array.length_toList] at hj; exact hj
    rw [Lib.bytesWorld_cell w 5 s j hj2]
    congr 2
    simp only [intsB, List.getD, List.getElem?_map, List.getElem?_eq_getElem hj, Option.map_some, Option.getD_some]
  · simp [Lib.bytesWorld, World.freeze, World.alloc, World.drew, -World.alloc_eq, -World.drew_eq]
  · simp [Lib.bytesWorld, World.freeze, World.alloc, World.drew, -World.alloc_eq, -World.drew_eq]
  · simp [Lib.bytesWorld, World.freeze, World.alloc, World.drew, -World.alloc_eq, -World.drew_eq]
  · rw [Lib.bytesWorld_size]; omega
  · exact fun k hk _ => Lib.bytesWorld_at_old w _ s k hk
  · rw [Lib.bytesWorld_size]; omega
end Go.Proofs.YtpdfkgmgmndcfaaGreatDoor
/-
  The document's Out (layer 9): digest, many, done.
-/
namespace Go.Proofs.YtpdfkgmgmndcfaaGreatDoor
open Go.RowKit

theorem bytesAt_ofI {w : World} {A : Option Addr} {l : List UInt8} (h : BytesI w A (intsB l)) : BytesAt w A l := fun hne => by
  obtain ⟨ad, e, hat⟩ := h (by simpa [intsB] using hne)
  refine ⟨ad, e, fun j hj => ?_⟩
  have := hat j (by simpa [intsB] using hj)
  rw [this]
  simp [intsB, List.getD, List.getElem?_eq_getElem hj]
theorem intsB_dgB' : ∀ {d : List Int}, (∀ z ∈ d, 0 ≤ z ∧ z < 256) → intsB (dgB d) = d
  | [], _ => rfl
  | z :: r, h => by
    have hz := h z (by simp)
    have e : (((UInt8.ofNat z.toNat).toNat : Nat) : Int) = z := by
      rw [UInt8.toNat_ofNat', Nat.mod_eq_of_lt (by omega)]
      omega
    have := intsB_dgB' (d := r) (fun y hy => h y (by simp [hy]))
    simp only [intsB, dgB, List.map_cons] at this ⊢
    rw [e, this]
theorem intsB_dgB {d : List Int} (hd : isDig d) : intsB (dgB d) = d := intsB_dgB' hd.2
theorem range_set_ou {w : World} {b g : Nat} {cs : List Value} (h : w.rangeAt b 0 cs) (hne : g ≠ b) (v : Value) : (w.setCell ⟨g, 0, none⟩ v).rangeAt b 0 cs := fun j u hu => by
  rw [World.cell?_setCell_far _ _ _ _ (by simpa using hne)]
  exact h j u hu
theorem dig_strB (d : List Int) (hd : isDig d) : ∃ s : ByteArray, xsOf s = d ∧ s.data.toList = dgB d ∧ s.size = (dgB d).length := by
  obtain ⟨s, hs⟩ := ints_str d hd.2
  have e : s.data.toList = dgB d := intsB_inj (by rw [intsB_dgB hd, ← hs]; rfl)
  exact ⟨s, hs, e, by rw [← e, Array.length_toList]; rfl⟩
section
variable {w0 w w' w'' : World} {g : Nat} {F : Nat → Prop} {s s' : WSt}
set_option maxRecDepth 100000 in
set_option maxHeartbeats 2000000 in
theorem odig_st (h : OI w0 g F s w) (hs : s.2.length ≤ 70368744177664) (d : List Int) (hd : isDig d) (dd : Array Value) (hdd : dd = arrV .u8 d) :
    Calls Tryz.prog 40 #[.pointer (some ⟨g, 0, none⟩), .agg dd] w fun e w' => e = .returned (.tuple #[]) ∧ OP w0 g F (sDig d s) w w' := by
  obtain ⟨e0, l⟩ := s
  obtain ⟨i0, hi, hz0, hz1, hz2⟩ := info_parts u8_info
  simp only at hs
  obtain ⟨W1, hW1⟩ : ∃ W1, w.alloc (.cells dd 24) = W1 := ⟨_, rfl⟩
  have g1 : w.grownBy W1 none := by rw [← hW1]; exact World.grownBy_alloc _ _ none
  have bx : Blk W1 w.heap.size 24 dd := by rw [← hW1]; exact Blk.new w _ _
  have hsz : dd.size = 16 := by rw [hdd, arr_size, hd.1]
  have hgq : g ≠ w.heap.size := by
    obtain ⟨_, bA, bc, hb, _⟩ := h.wr
    have := hb.lt
    omega
  have P1 := h.grown g1
  obtain ⟨hBg, bA, bc, hb, hown, hF⟩ := P1.wi.wr
  have c0 := hb.cell 0
  have c1 := hb.cell 1
  simp at c0 c1
  have HP1 := Lib.hid P1
  have HW := Lib.hid hW1
  have HQ := Lib.hid hgq
  rcases e0 with _ | e0
  · obtain ⟨S, hs1, hs2, hs3⟩ := dig_strB d hd
    obtain ⟨x, hx⟩ : ∃ x, dgB d = x := ⟨_, rfl⟩
    have hr : sDig d (0, l) = (0, l ++ x) := by rw [← hx]; rfl
    rw [hx] at hs2 hs3
    have hxl : x.length = 16 := by rw [← hx, dgB_length, hd.1]
    have HXL := Lib.hid (And.intro hxl hs)
    have HT := Lib.hid (show ∀ W : World, Calls Tryz.prog 54 #[.agg dd] W fun e w' => e = .returned (.string S) ∧ W.grownBy w' none from fun W => by rw [hdd]; exact text_is W d hd.1 S hs1)
    have HS := Lib.hid (And.intro hs3 hs2)
    have HD := Lib.hid (And.intro hdd (And.intro hsz bx))
    have HI := Lib.hid (And.intro hi (And.intro hz0 (And.intro hz1 hz2)))
    have HH := Lib.hid P1.wi
    have HB := Lib.hid (And.intro hBg (And.intro hb (And.intro hown hF)))
    have HR := Lib.hid (show W1.drew.rangeAt w.heap.size 0 dd.toList from range_blk0 bx)
    have HX := Lib.hid (fun (w1 : World) (A : Option Addr) (hbI : BytesI w1 A (intsB S.data.toList)) (gn : W1.drew.grownBy w1 none) =>
      And.intro (show BytesAt w1 A x by rw [← hs2]; exact bytesAt_ofI hbI) (And.intro (World.ownsRow.kept (show W1.drew.ownsRow 0 5 1 (.slice bA l.length bc) l.length (Lib.byteCells l) from hown) gn (by cases hv : (Value.slice bA l.length bc).ownBlock <;> simp)) (And.intro (Blk.grown (show Blk W1.drew g 75 #[.slice bA l.length bc, .int .i64 0] from hb) gn (by simp)) (Blk.grown (show Blk W1.drew w.heap.size 24 dd from bx) gn (by simp)))))
    rw [hr]
    clear hr hx hxl hs hs1 hs2 hs3 hdd hsz bx hi hz0 hz1 hz2 hBg hb hown hF P1 hW1 hgq g1 h hd
    go_enter Tryz.func40, Tryz.ntmps40
    go_upto_region 1 with (fail)
    rw [HW.out]
    go_upto_region 2 with (fail)
    have c0d : W1.drew.cell? ⟨g, 0, none⟩ = some (.slice bA l.length bc) := c0
    refine wp_region_held_drew (S := fun V => V.rangeAt w.heap.size 0 dd.toList) (by kernel_rfl) HR.out (fun hHeld => ?_)
    refine wpAnyH_take (i := 0) (oi := _) (v := ?vn0) rfl (by kernel_rfl) (by kernel_rfl) (by kernel_rfl) (fun _ _ _ h => h) (Or.inl ⟨by rfl, ?hyn0⟩) (by assumption) ?restn0
    case hyn0 => (intro V hSw; (try dsimp only at hSw); go_simp) <;> with_reducible rfl
    try simp only [Act.put, List.getElem_toArray, List.getElem_cons_succ, List.getElem_cons_zero, List.setIfInBounds_toArray, List.set_cons_zero, List.set_cons_succ]
    refine wpAnyH_take (i := 1) (oi := _) (v := ?vn1) rfl (by kernel_rfl) (by kernel_rfl) (by kernel_rfl) (fun _ _ _ h => h) (Or.inl ⟨by rfl, ?hyn1⟩) (by assumption) ?restn1
    case hyn1 => (intro V hSw; (try dsimp only at hSw); go_simp) <;> with_reducible rfl
    try simp only [Act.put, List.getElem_toArray, List.getElem_cons_succ, List.getElem_cons_zero, List.setIfInBounds_toArray, List.set_cons_zero, List.set_cons_succ]
    refine wpAnyH_take (i := 2) (oi := _) (v := ?vn2) rfl (by kernel_rfl) (by kernel_rfl) (by kernel_rfl) (fun _ _ _ h => h) (Or.inl ⟨by rfl, ?hyn2⟩) (by assumption) ?restn2
    case hyn2 => (intro V hSw; (try dsimp only at hSw); go_simp) <;> with_reducible rfl
    try simp only [Act.put, List.getElem_toArray, List.getElem_cons_succ, List.getElem_cons_zero, List.setIfInBounds_toArray, List.set_cons_zero, List.set_cons_succ]
    refine wpAnyH_take (i := 3) (oi := _) (v := ?vn3) rfl (by kernel_rfl) (by kernel_rfl) (by kernel_rfl) (fun _ _ _ h => h) (Or.inl ⟨by rfl, ?hyn3⟩) (by assumption) ?restn3
    case hyn3 => (intro V hSw; (try dsimp only at hSw); go_simp) <;> with_reducible rfl
    try simp only [Act.put, List.getElem_toArray, List.getElem_cons_succ, List.getElem_cons_zero, List.setIfInBounds_toArray, List.set_cons_zero, List.set_cons_succ]
    refine wpAnyH_take (i := 5) (oi := _) (v := .agg dd) rfl (by kernel_rfl) (by kernel_rfl) (by kernel_rfl) (fun _ _ _ h => h) (yieldsIf_load_mid (by rfl) _ _ rfl w.heap.size 0 rfl dd.toList _ (fun V hSw => hSw) Tryz.underlying24 rfl (by rw [Array.length_toList, HD.out.2.1]; exact info16b)) (by assumption) ?restn5
    try simp only [Act.put, List.getElem_toArray, List.getElem_cons_succ, List.getElem_cons_zero, List.setIfInBounds_toArray, List.set_cons_zero, List.set_cons_succ]
    refine wpAnyH_ready (rs := [4, 6]) (by kernel_rfl) (by simp) ?_
    refine (AllReadyH.cons (o := _) rfl (fun K9 hK => ?_) (AllReadyH.cons (o := _) rfl (fun K9 hK => ?_) AllReadyH.nil))
    · go_simp
      refine hK.out _ _ hHeld (fun hHeld => ?_)
      clear hK K9
      try simp only [Act.put, List.getElem_toArray, List.getElem_cons_succ, List.getElem_cons_zero, List.setIfInBounds_toArray, List.set_cons_zero, List.set_cons_succ]
      refine wpAnyH_ready (rs := [6]) (by kernel_rfl) (by simp) ?_
      refine (AllReadyH.cons (o := _) rfl (fun K9 hK => ?_) AllReadyH.nil)
      go_simp
      refine (HT.out W1.drew).mono ?_
      rintro e w2 ⟨rfl, gt⟩
      have d0 := gt.cell c0d (by simp)
      obtain ⟨cv, w3, hcv0, _, hbI, gc, _⟩ := conv_is w2 S
      have hcv := hcv0 _ rfl
      rw [HS.out.1] at hcv
      have f3 := gc.cell d0 (by simp)
      have HG := Lib.hid (grown_trans gt gc)
      have HY := Lib.hid (HX.out w3 (some ⟨w2.heap.size, 0, none⟩) hbI (grown_trans gt gc))
      have HR2 := Lib.hid (range_kept HR.out gt)
      have HR3 := Lib.hid (range_kept HR.out (grown_trans gt gc))
      clear gt gc hcv0 hbI
      (try go_wp2_with fail)
      refine hK.out _ _ HR2.out (fun hHeld => ?_)
      clear hK K9
      try simp only [Act.put, List.getElem_toArray, List.getElem_cons_succ, List.getElem_cons_zero, List.setIfInBounds_toArray, List.set_cons_zero, List.set_cons_succ]
      refine wpAnyH_ready (rs := [7]) (by kernel_rfl) (by simp) ?_
      refine (AllReadyH.cons (o := _) rfl (fun K9 hK => ?_) AllReadyH.nil)
      go_simp
      refine hK.out _ _ HR3.out (fun hHeld => ?_)
      clear hK K9
      try simp only [Act.put, List.getElem_toArray, List.getElem_cons_succ, List.getElem_cons_zero, List.setIfInBounds_toArray, List.set_cons_zero, List.set_cons_succ]
      refine wpAnyH_ready (rs := [8]) (by kernel_rfl) (by simp) ?_
      refine (AllReadyH.cons (o := _) rfl (fun K9 hK => ?_) AllReadyH.nil)
      refine step_append_bytes _ (by rfl) _ _ _ (by rfl) 0 5 i0 _ Tryz.underlying60 HI.out.1 HI.out.2.1 HI.out.2.2.1 HI.out.2.2.2 rfl (.slice bA l.length bc) l.length (Lib.byteCells l) (by rfl) HY.out.2.1 (some ⟨w2.heap.size, 0, none⟩) _ x (by rfl) HY.out.1 (by have := HXL.out; omega) (Nat.zero_le _) ?_
      intro A' cap' w3 hown1 hgrow hat
      have hb3 := HY.out.2.2.1.grown hgrow (own_ne HY.out.2.1 HY.out.2.2.1 (by decide)).symm
      have f0 := hb3.frozen 0
      have d3 : w3.cell? ⟨g, 0, none⟩ = some (.slice bA l.length bc) := hb3.cell 0
      clear hb3
      have HP := Lib.hid (OutIs.pushed (F := Proofs.YtpdfkgmgmndcfaaGreatDoor.upTo F w.heap.size W1.heap.size) HB.out.1 HY.out.2.2.1 HY.out.2.1 HB.out.2.2.2 hown1 hgrow hat)
      have HR4 := Lib.hid (range_blk0 (HY.out.2.2.2.grown hgrow (own_ne HY.out.2.1 HY.out.2.2.2 (by decide)).symm))
      clear hown1 hgrow hat
      refine hK.out _ _ HR4.out (fun hHeld => ?_)
      clear hK K9
      try simp only [Act.put, List.getElem_toArray, List.getElem_cons_succ, List.getElem_cons_zero, List.setIfInBounds_toArray, List.set_cons_zero, List.set_cons_succ]
      refine wpAnyH_take (i := 9) (oi := _) (v := ?va9) rfl (by kernel_rfl) (by kernel_rfl) (by kernel_rfl) (fun _ _ _ h => h) (Or.inl ⟨by rfl, ?hya9⟩) (by assumption) ?resta9
      case hya9 => (intro V hSw; (try dsimp only at hSw); go_simp) <;> with_reducible rfl
      try simp only [Act.put, List.getElem_toArray, List.getElem_cons_succ, List.getElem_cons_zero, List.setIfInBounds_toArray, List.set_cons_zero, List.set_cons_succ]
      refine wpAnyH_take (i := 10) (oi := _) (v := ?va10) rfl (by kernel_rfl) (by kernel_rfl) (by kernel_rfl) (fun _ _ _ h => h) (Or.inl ⟨by rfl, ?hya10⟩) (by assumption) ?resta10
      case hya10 => (intro V hSw; (try dsimp only at hSw); go_simp) <;> with_reducible rfl
      try simp only [Act.put, List.getElem_toArray, List.getElem_cons_succ, List.getElem_cons_zero, List.setIfInBounds_toArray, List.set_cons_zero, List.set_cons_succ]
      refine wpAnyH_ready (rs := [11]) (by kernel_rfl) (by simp) ?_
      refine (AllReadyH.cons (o := _) rfl (fun K9 hK => ?_) AllReadyH.nil)
      go_simp
      refine hK.out _ _ (range_set_ou HR4.out HQ.out _) (fun hHeld => ?_)
      clear hK K9
      try simp only [Act.put, List.getElem_toArray, List.getElem_cons_succ, List.getElem_cons_zero, List.setIfInBounds_toArray, List.set_cons_zero, List.set_cons_succ]
      refine wpAnyH_done (by kernel_rfl) ?_ _
      go_wp2
      go_end0
      refine ⟨rfl, HP1.out.trans ((HH.out.same.drew).trans (OI.step HH.out.same.drew.wi ?_ ?_))⟩
      · exact (Kept.of_grown HG.out fun _ e => by cases e).follow_ou HP.out.2 fun j _ hj => .inl hj
      · refine HP.out.1.mono fun j _ hj => ?_
        have := HG.out.size
        rcases hj with h1 | ⟨h1, h2⟩
        · exact .inl (.inl h1)
        · exact .inr ⟨by omega, by simpa [World.setCell] using h2⟩
    · go_simp
      refine (HT.out W1.drew).mono ?_
      rintro e w2 ⟨rfl, gt⟩
      have d0 := gt.cell c0d (by simp)
      obtain ⟨cv, w3, hcv0, _, hbI, gc, _⟩ := conv_is w2 S
      have hcv := hcv0 _ rfl
      rw [HS.out.1] at hcv
      have f3 := gc.cell d0 (by simp)
      have HG := Lib.hid (grown_trans gt gc)
      have HY := Lib.hid (HX.out w3 (some ⟨w2.heap.size, 0, none⟩) hbI (grown_trans gt gc))
      have HR2 := Lib.hid (range_kept HR.out gt)
      have HR3 := Lib.hid (range_kept HR.out (grown_trans gt gc))
      clear gt gc hcv0 hbI
      (try go_wp2_with fail)
      refine hK.out _ _ HR2.out (fun hHeld => ?_)
      clear hK K9
      try simp only [Act.put, List.getElem_toArray, List.getElem_cons_succ, List.getElem_cons_zero, List.setIfInBounds_toArray, List.set_cons_zero, List.set_cons_succ]
      refine wpAnyH_ready (rs := [4, 7]) (by kernel_rfl) (by simp) ?_
      refine (AllReadyH.cons (o := _) rfl (fun K9 hK => ?_) (AllReadyH.cons (o := _) rfl (fun K9 hK => ?_) AllReadyH.nil))
      · go_simp
        refine hK.out _ _ HR2.out (fun hHeld => ?_)
        clear hK K9
        try simp only [Act.put, List.getElem_toArray, List.getElem_cons_succ, List.getElem_cons_zero, List.setIfInBounds_toArray, List.set_cons_zero, List.set_cons_succ]
        refine wpAnyH_ready (rs := [7]) (by kernel_rfl) (by simp) ?_
        refine (AllReadyH.cons (o := _) rfl (fun K9 hK => ?_) AllReadyH.nil)
        go_simp
        refine hK.out _ _ HR3.out (fun hHeld => ?_)
        clear hK K9
        try simp only [Act.put, List.getElem_toArray, List.getElem_cons_succ, List.getElem_cons_zero, List.setIfInBounds_toArray, List.set_cons_zero, List.set_cons_succ]
        refine wpAnyH_ready (rs := [8]) (by kernel_rfl) (by simp) ?_
        refine (AllReadyH.cons (o := _) rfl (fun K9 hK => ?_) AllReadyH.nil)
        refine step_append_bytes _ (by rfl) _ _ _ (by rfl) 0 5 i0 _ Tryz.underlying60 HI.out.1 HI.out.2.1 HI.out.2.2.1 HI.out.2.2.2 rfl (.slice bA l.length bc) l.length (Lib.byteCells l) (by rfl) HY.out.2.1 (some ⟨w2.heap.size, 0, none⟩) _ x (by rfl) HY.out.1 (by have := HXL.out; omega) (Nat.zero_le _) ?_
        intro A' cap' w3 hown1 hgrow hat
        have hb3 := HY.out.2.2.1.grown hgrow (own_ne HY.out.2.1 HY.out.2.2.1 (by decide)).symm
        have f0 := hb3.frozen 0
        have d3 : w3.cell? ⟨g, 0, none⟩ = some (.slice bA l.length bc) := hb3.cell 0
        clear hb3
        have HP := Lib.hid (OutIs.pushed (F := Proofs.YtpdfkgmgmndcfaaGreatDoor.upTo F w.heap.size W1.heap.size) HB.out.1 HY.out.2.2.1 HY.out.2.1 HB.out.2.2.2 hown1 hgrow hat)
        have HR4 := Lib.hid (range_blk0 (HY.out.2.2.2.grown hgrow (own_ne HY.out.2.1 HY.out.2.2.2 (by decide)).symm))
        clear hown1 hgrow hat
        refine hK.out _ _ HR4.out (fun hHeld => ?_)
        clear hK K9
        try simp only [Act.put, List.getElem_toArray, List.getElem_cons_succ, List.getElem_cons_zero, List.setIfInBounds_toArray, List.set_cons_zero, List.set_cons_succ]
        refine wpAnyH_take (i := 9) (oi := _) (v := ?vb9) rfl (by kernel_rfl) (by kernel_rfl) (by kernel_rfl) (fun _ _ _ h => h) (Or.inl ⟨by rfl, ?hyb9⟩) (by assumption) ?restb9
        case hyb9 => (intro V hSw; (try dsimp only at hSw); go_simp) <;> with_reducible rfl
        try simp only [Act.put, List.getElem_toArray, List.getElem_cons_succ, List.getElem_cons_zero, List.setIfInBounds_toArray, List.set_cons_zero, List.set_cons_succ]
        refine wpAnyH_take (i := 10) (oi := _) (v := ?vb10) rfl (by kernel_rfl) (by kernel_rfl) (by kernel_rfl) (fun _ _ _ h => h) (Or.inl ⟨by rfl, ?hyb10⟩) (by assumption) ?restb10
        case hyb10 => (intro V hSw; (try dsimp only at hSw); go_simp) <;> with_reducible rfl
        try simp only [Act.put, List.getElem_toArray, List.getElem_cons_succ, List.getElem_cons_zero, List.setIfInBounds_toArray, List.set_cons_zero, List.set_cons_succ]
        refine wpAnyH_ready (rs := [11]) (by kernel_rfl) (by simp) ?_
        refine (AllReadyH.cons (o := _) rfl (fun K9 hK => ?_) AllReadyH.nil)
        go_simp
        refine hK.out _ _ (range_set_ou HR4.out HQ.out _) (fun hHeld => ?_)
        clear hK K9
        try simp only [Act.put, List.getElem_toArray, List.getElem_cons_succ, List.getElem_cons_zero, List.setIfInBounds_toArray, List.set_cons_zero, List.set_cons_succ]
        refine wpAnyH_done (by kernel_rfl) ?_ _
        go_wp2
        go_end0
        refine ⟨rfl, HP1.out.trans ((HH.out.same.drew).trans (OI.step HH.out.same.drew.wi ?_ ?_))⟩
        · exact (Kept.of_grown HG.out fun _ e => by cases e).follow_ou HP.out.2 fun j _ hj => .inl hj
        · refine HP.out.1.mono fun j _ hj => ?_
          have := HG.out.size
          rcases hj with h1 | ⟨h1, h2⟩
          · exact .inl (.inl h1)
          · exact .inr ⟨by omega, by simpa [World.setCell] using h2⟩
      · go_simp
        refine hK.out _ _ HR3.out (fun hHeld => ?_)
        clear hK K9
        try simp only [Act.put, List.getElem_toArray, List.getElem_cons_succ, List.getElem_cons_zero, List.setIfInBounds_toArray, List.set_cons_zero, List.set_cons_succ]
        refine wpAnyH_ready (rs := [4]) (by kernel_rfl) (by simp) ?_
        refine (AllReadyH.cons (o := _) rfl (fun K9 hK => ?_) AllReadyH.nil)
        go_simp
        refine hK.out _ _ HR3.out (fun hHeld => ?_)
        clear hK K9
        try simp only [Act.put, List.getElem_toArray, List.getElem_cons_succ, List.getElem_cons_zero, List.setIfInBounds_toArray, List.set_cons_zero, List.set_cons_succ]
        refine wpAnyH_ready (rs := [8]) (by kernel_rfl) (by simp) ?_
        refine (AllReadyH.cons (o := _) rfl (fun K9 hK => ?_) AllReadyH.nil)
        refine step_append_bytes _ (by rfl) _ _ _ (by rfl) 0 5 i0 _ Tryz.underlying60 HI.out.1 HI.out.2.1 HI.out.2.2.1 HI.out.2.2.2 rfl (.slice bA l.length bc) l.length (Lib.byteCells l) (by rfl) HY.out.2.1 (some ⟨w2.heap.size, 0, none⟩) _ x (by rfl) HY.out.1 (by have := HXL.out; omega) (Nat.zero_le _) ?_
        intro A' cap' w3 hown1 hgrow hat
        have hb3 := HY.out.2.2.1.grown hgrow (own_ne HY.out.2.1 HY.out.2.2.1 (by decide)).symm
        have f0 := hb3.frozen 0
        have d3 : w3.cell? ⟨g, 0, none⟩ = some (.slice bA l.length bc) := hb3.cell 0
        clear hb3
        have HP := Lib.hid (OutIs.pushed (F := Proofs.YtpdfkgmgmndcfaaGreatDoor.upTo F w.heap.size W1.heap.size) HB.out.1 HY.out.2.2.1 HY.out.2.1 HB.out.2.2.2 hown1 hgrow hat)
        have HR4 := Lib.hid (range_blk0 (HY.out.2.2.2.grown hgrow (own_ne HY.out.2.1 HY.out.2.2.2 (by decide)).symm))
        clear hown1 hgrow hat
        refine hK.out _ _ HR4.out (fun hHeld => ?_)
        clear hK K9
        try simp only [Act.put, List.getElem_toArray, List.getElem_cons_succ, List.getElem_cons_zero, List.setIfInBounds_toArray, List.set_cons_zero, List.set_cons_succ]
        refine wpAnyH_take (i := 9) (oi := _) (v := ?vc9) rfl (by kernel_rfl) (by kernel_rfl) (by kernel_rfl) (fun _ _ _ h => h) (Or.inl ⟨by rfl, ?hyc9⟩) (by assumption) ?restc9
        case hyc9 => (intro V hSw; (try dsimp only at hSw); go_simp) <;> with_reducible rfl
        try simp only [Act.put, List.getElem_toArray, List.getElem_cons_succ, List.getElem_cons_zero, List.setIfInBounds_toArray, List.set_cons_zero, List.set_cons_succ]
        refine wpAnyH_take (i := 10) (oi := _) (v := ?vc10) rfl (by kernel_rfl) (by kernel_rfl) (by kernel_rfl) (fun _ _ _ h => h) (Or.inl ⟨by rfl, ?hyc10⟩) (by assumption) ?restc10
        case hyc10 => (intro V hSw; (try dsimp only at hSw); go_simp) <;> with_reducible rfl
        try simp only [Act.put, List.getElem_toArray, List.getElem_cons_succ, List.getElem_cons_zero, List.setIfInBounds_toArray, List.set_cons_zero, List.set_cons_succ]
        refine wpAnyH_ready (rs := [11]) (by kernel_rfl) (by simp) ?_
        refine (AllReadyH.cons (o := _) rfl (fun K9 hK => ?_) AllReadyH.nil)
        go_simp
        refine hK.out _ _ (range_set_ou HR4.out HQ.out _) (fun hHeld => ?_)
        clear hK K9
        try simp only [Act.put, List.getElem_toArray, List.getElem_cons_succ, List.getElem_cons_zero, List.setIfInBounds_toArray, List.set_cons_zero, List.set_cons_succ]
        refine wpAnyH_done (by kernel_rfl) ?_ _
        go_wp2
        go_end0
        refine ⟨rfl, HP1.out.trans ((HH.out.same.drew).trans (OI.step HH.out.same.drew.wi ?_ ?_))⟩
        · exact (Kept.of_grown HG.out fun _ e => by cases e).follow_ou HP.out.2 fun j _ hj => .inl hj
        · refine HP.out.1.mono fun j _ hj => ?_
          have := HG.out.size
          rcases hj with h1 | ⟨h1, h2⟩
          · exact .inl (.inl h1)
          · exact .inr ⟨by omega, by simpa [World.setCell] using h2⟩
  · have hr : sDig d (e0 + 1, l) = (e0 + 1, l) := rfl
    have hne : (((e0 + 1 : Nat) : Int) == 0) = false := by simp; omega
    rw [hr]
    clear hr P1 h hdd hsz bx hi hz0 hz1 hz2 hBg hb hown hF hW1 hgq g1 hd
    go_enter Tryz.func40, Tryz.ntmps40
    go_upto_region 1 with (fail)
    rw [HW.out]
    go_wp2_with fail
    go_end0
    exact ⟨rfl, HP1.out⟩
theorem onum_lit {z : Int} {k : Nat} (hz : z = (k : Int)) (h : OI w0 g F s w) (hs : s.2.length ≤ 70368744177664) {n : Int} (hmax : n ≤ 9223372036854775807) (h1 : 1 ≤ k) (h8 : k ≤ 8) :
    Calls Tryz.prog 39 #[.pointer (some ⟨g, 0, none⟩), .int .i64 n, .int .i64 z] w fun e w' => e = .returned (.tuple #[]) ∧ OP w0 g F (sNum n z s) w w' := by
  subst hz
  exact onum_st h hs n hmax k h1 h8
/-- How many elements, 'most' at most. -/
def sMany (n : Nat) (most : Int) (s : WSt) : WSt := if most < (n : Int) then sFail 1 s else sNum (n : Int) 1 s
set_option maxRecDepth 100000 in
set_option maxHeartbeats 1000000 in
theorem omany_st (h : OI w0 g F s w) (hs : s.2.length ≤ 70368744177664) (n : Nat) (hn : n ≤ 1000000) (most : Nat) (hm : most ≤ 255) :
    Calls Tryz.prog 42 #[.pointer (some ⟨g, 0, none⟩), .int .i64 (n : Int), .int .i64 (most : Int)] w fun e w' => e = .returned (.tuple #[]) ∧ OP w0 g F (sMany n (most : Int) s) w w' := by
  obtain ⟨e0, l⟩ := s
  obtain ⟨hBg, bA, bc, hb, hown, hF⟩ := h.wr
  have c0 := hb.cell 0
  have c1 := hb.cell 1
  simp at c0 c1
  simp only at hs
  rcases e0 with _ | e0
  · by_cases hlt : (most : Int) < (n : Int)
    · have hr : sMany n (most : Int) (0, l) = (1, l) := by unfold sMany sFail; rw [if_pos hlt]; rfl
      have hb1 : decide (most < n) = true := by simpa using hlt
      have f1 := hb.frozen 1
      have hP : OP w0 g F (1, l) w (w.setCell ⟨g, 1, none⟩ (.int .i64 1)) := h.step ((Kept.refl F w).set (.inl hBg) _) ⟨.inl hBg, bA, bc, by simpa using hb.set 1 (.int .i64 1), own_far hown hb (by decide) 1 _, fun ad e => .inl (hF ad e)⟩
      have HN := Lib.hid (onum_lit (n := (n : Int)) (z := 1) (k := 1) rfl hP.wi hs (by omega) (by omega) (by omega))
      have HP := Lib.hid hP
      have hsn : sNum (n : Int) 1 (1, l) = (1, l) := by unfold sNum; split <;> rfl
      have HSN := Lib.hid hsn
      rw [hr]
      clear hP hr hsn h hb hown hF hBg hs hn hm hlt
      go_enter Tryz.func42, Tryz.ntmps42
      go_wp2_with fail
      refine HN.out.mono ?_
      rintro e w1 ⟨rfl, q⟩
      have Q := Lib.hid q
      clear q
      go_wp2_with fail
      go_end0
      refine ⟨rfl, HP.out.trans ?_⟩
      have := Q.out
      rwa [HSN.out] at this
    · have hr : sMany n (most : Int) (0, l) = sNum (n : Int) 1 (0, l) := by unfold sMany; rw [if_neg hlt]
      have hb1 : decide (most < n) = false := by simpa using hlt
      have HN := Lib.hid (onum_lit (n := (n : Int)) (z := 1) (k := 1) rfl h hs (by omega) (by omega) (by omega))
      rw [hr]
      clear hr h hb hown hF hBg hs hn hm hlt
      go_enter Tryz.func42, Tryz.ntmps42
      go_wp2_with fail
      refine HN.out.mono ?_
      rintro e w1 ⟨rfl, q⟩
      have Q := Lib.hid q
      clear q
      go_wp2_with fail
      go_end0
      exact ⟨rfl, Q.out⟩
  · have hr : sMany n (most : Int) (e0 + 1, l) = (e0 + 1, l) := by
      unfold sMany sNum
      split
      · rfl
      · split <;> rfl
    have hr2 : sNum (n : Int) 1 (e0 + 1, l) = (e0 + 1, l) := by unfold sNum; split <;> rfl
    have hne : (((e0 + 1 : Nat) : Int) == 0) = false := by simp; omega
    have HN := Lib.hid (onum_lit (n := (n : Int)) (z := 1) (k := 1) rfl h hs (by omega) (by omega) (by omega))
    have HR := Lib.hid hr2
    rw [hr]
    clear hr hr2 h hb hown hF hBg hs hn hm
    go_enter Tryz.func42, Tryz.ntmps42
    go_wp2_with fail
    refine HN.out.mono ?_
    rintro e w1 ⟨rfl, q⟩
    have Q := Lib.hid q
    clear q
    go_wp2_with fail
    go_end0
    refine ⟨rfl, ?_⟩
    have := Q.out
    rwa [HR.out] at this
end
end Go.Proofs.YtpdfkgmgmndcfaaGreatDoor
