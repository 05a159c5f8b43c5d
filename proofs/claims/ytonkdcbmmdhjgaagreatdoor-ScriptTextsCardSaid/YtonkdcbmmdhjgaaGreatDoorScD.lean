/-
  script.readBytes.
-/
import Derived.Test.YtonkdcbmmdhjgaaGreatDoorScC
import Derived.Deep.DeepCutAuto
namespace Go.Proofs.YtonkdcbmmdhjgaaGreatDoor
open Go.RowKit Go.Shelf

theorem nib_is (b : UInt8) (B : Int) (hB : B = (b.toNat : Int)) (w : World) : Calls Tryz.prog 32 #[.string ⟨#[48, 49, 50, 51, 52, 53, 54, 55, 56, 57, 97, 98, 99, 100, 101, 102]⟩, .int .u8 B] w fun e w' => e = .returned (.int .i64 (nibS b)) ∧ w' = w := by
  have h := ixb_is ⟨#[48, 49, 50, 51, 52, 53, 54, 55, 56, 57, 97, 98, 99, 100, 101, 102]⟩ B w
  have e : B.toNat.toUInt8 = b := by
    subst hB
    apply UInt8.toNat_inj.1
    simp
  rw [e] at h
  exact h
theorem nib_gr (b : UInt8) (B : Int) (hB : B = (b.toNat : Int)) (U : Int) (hU : U = nibS b) (w : World) : Calls Tryz.prog 32 #[.string ⟨#[48, 49, 50, 51, 52, 53, 54, 55, 56, 57, 97, 98, 99, 100, 101, 102]⟩, .int .u8 B] w fun e w' => e = .returned (.int .i64 U) ∧ w.grownBy w' none := by
  refine (nib_is b B hB w).mono ?_
  rintro e w' ⟨rfl, rfl⟩
  exact ⟨by rw [hU], World.grownBy.refl _ _⟩
theorem or_fin : ∀ u v : Fin 16, bits BinOp.or IntKind.i64 ((u.val : Int) * 16) (v.val : Int) % 256 = 16 * (u.val : Int) + (v.val : Int) := by decide +kernel
theorem or_nib {U V : Int} (hU : 0 ≤ U ∧ U < 16) (hV : 0 ≤ V ∧ V < 16) : bits BinOp.or IntKind.i64 (U * 16) V % 256 = 16 * U + V := by
  have := or_fin ⟨U.toNat, by omega⟩ ⟨V.toNat, by omega⟩
  simp only at this
  rwa [Int.toNat_of_nonneg hU.1, Int.toNat_of_nonneg hV.1] at this
theorem nib_lt (b : UInt8) : -1 ≤ nibS b ∧ nibS b < 16 := by
  by_cases h : 0 ≤ nibS b
  · exact ⟨by omega, (nib_back b h).2⟩
  · refine ⟨?_, by omega⟩
    have := Lib.indexByte_ge digitsL b
    exact this
theorem readHex_append : ∀ (m : Nat) (a b : List UInt8), a.length = 2 * m → readHex (a ++ b) = match readHex a with
    | none => none
    | some d => (readHex b).map fun e => d ++ e
  | 0, a, b, h => by
    obtain rfl := List.length_eq_zero_iff.1 (by omega : a.length = 0)
    simp [readHex]
  | m + 1, a, b, h => by
    match a, h with
    | x :: y :: r, h =>
      have hr : r.length = 2 * m := by simp at h; omega
      rw [List.cons_append, List.cons_append, readHex, readHex]
      split
      · rfl
      · rw [readHex_append m r b hr]
        cases readHex r with
        | none => rfl
        | some d => cases readHex b with
          | none => rfl
          | some e => simp
/-- What readBytes leaves. -/
def BytesPost (w : World) (l : List UInt8) (e : Ending) (w' : World) : Prop := w.grownBy w' none ∧ match bytesS l with
  | some bs => ∃ A c, e = .returned (.tuple #[.slice A bs.length c, .bool true]) ∧ w'.ownsRow w.heap.size 5 1 (.slice A bs.length c) bs.length (Lib.byteCells bs)
  | none => ∃ A n c, e = .returned (.tuple #[.slice A n c, .bool false])
theorem made_bytes (n : Nat) : madeCells #[Value.int .u8 0] n = (Lib.byteCells (List.replicate n 0)).toArray := by
  apply Array.ext
  · simp [size_madeCells, Lib.byteCells]
  · intro i h1 h2
    simp [madeCells, Lib.byteCells, Nat.mod_one]
theorem make_bytesN (w : World) (n : Nat) (h : n ≤ 100000) : Sem.run Tryz.prog (Instr.makeSlice 27 (.int .i64 (n : Int)) (.int .i64 (n : Int))) w = .ok (.slice (some ⟨w.heap.size, 0, none⟩) n n) (w.alloc (.cells (Lib.byteCells (List.replicate n 0)).toArray 5)) := by
  obtain ⟨i, hi, h2, h3, h4⟩ := info_parts (show (Tryz.prog.info? 5).map (fun i => (i.zero, i.size, i.bytes)) = some (some (.int .u8 0), 1, 1) by kernel_rfl)
  have hr := run_make (P := Tryz.prog) w 27 5 i (.int .u8 0) Tryz.underlying27 hi h2 .i64 .i64 (n : Int) (n : Int) (by omega) (Int.le_refl _) (by rw [h4]; omega) (by omega)
  rw [hr, h3]
  simp only [Int.toNat_natCast]
  rw [← made_bytes, Nat.mul_one]; rfl
theorem own_of_blk {w : World} {g n base : Nat} {e : TypeId} {xs : List Value} (h : Blk w g e xs.toArray) (hb : base ≤ g) (hn : xs.length = n) (hm : n ≤ maxLen) : w.ownsRow base e 1 (.slice (some ⟨g, 0, none⟩) n n) n xs :=
  ⟨by omega, .inr ⟨g, n, xs.toArray, rfl, hb, h, Nat.le_refl _, hm, by simp; omega, by rw [Nat.mul_one, ← hn]; exact List.take_length⟩⟩
theorem grown_cell {a W : World} (h : a.grownBy W none) {g i : Nat} (u : Value) (hg : a.heap.size ≤ g) : a.grownBy (W.setCell ⟨g, i, none⟩ u) none :=
  ⟨h.os, h.tape, h.output, by simpa [World.setCell] using h.size, fun k hk hn => (Below.heap_setCell W ⟨g, i, none⟩ u k (by simp only; omega)).trans (h.block k hk hn)⟩
theorem bytes_set (d : List UInt8) (x y : UInt8) (r : List UInt8) : (Lib.byteCells (d ++ x :: r)).toArray.setIfInBounds d.length (.int .u8 y.toNat) = (Lib.byteCells (d ++ y :: r)).toArray := by
  simp [Lib.byteCells]
theorem str_at (s : ByteArray) (k : Nat) (b : UInt8) (h : s.data.toList[k]? = some b) (W : World) : Sem.run Tryz.prog (Instr.index 9 (.string s) (.int .i64 (k : Int))) W = .ok (.int .u8 (b.toNat : Int)) W := by
  obtain ⟨hk, e⟩ := List.getElem?_eq_some_iff.1 h
  rw [str_ix s k hk W, e]
set_option maxRecDepth 100000 in
set_option maxHeartbeats 2000000 in
theorem bytes_is (s : ByteArray) (hs : s.size ≤ 100000) (w : World) : Calls Tryz.prog 26 #[.string s] w (BytesPost w s.data.toList) := by
  obtain ⟨l, hl⟩ : ∃ l, l = s.data.toList := ⟨_, rfl⟩
  have hln : l.length = s.size := by rw [hl]; exact Array.length_toList
  obtain ⟨Q, hQ⟩ : ∃ Q, Q = BytesPost w l := ⟨_, rfl⟩
  rw [← hl, ← hQ]
  have HQ := Lib.hid hQ
  have HL := Lib.hid (And.intro hl hln)
  clear hQ hl hln
  by_cases hd : s = ⟨#[45]⟩
  · subst hd
    go_enter Tryz.func26, Tryz.ntmps26
    go_wp2_with fail
    rw [HQ.out]
    refine ⟨World.grownBy.refl _ _, ?_⟩
    rw [HL.out.1]
    exact ⟨none, 0, rfl, World.ownsRow_nil _ _ _ _⟩
  have hd3 : (s.toList == [45]) = false := lit_neB (a := [45]) hd
  have hdl : ¬ l = [45] := fun e => hd ((dash_iff s).2 (by rw [← HL.out.1]; exact e))
  have HD := Lib.hid hdl
  clear hd hdl
  by_cases he : s = ⟨#[]⟩
  · subst he
    have hn : bytesS l = none := by rw [HL.out.1]; rfl
    have HN := Lib.hid hn
    clear hn
    go_enter Tryz.func26, Tryz.ntmps26
    go_wp2_with fail
    rw [HQ.out]
    exact ⟨World.grownBy.refl _ _, by rw [HN.out]; exact ⟨none, 0, 0, rfl⟩⟩
  have he3 : (s.toList == []) = false := lit_neB (a := []) he
  have hel : ¬ l = [] := fun e => he (by rw [← strB_of s, ← HL.out.1, e]; rfl)
  have HE := Lib.hid hel
  clear he hel
  obtain ⟨m, hm⟩ : ∃ m, s.size = 2 * m ∨ s.size = 2 * m + 1 := ⟨s.size / 2, by omega⟩
  rcases hm with hm | hm
  · have q1 : ((s.size : Int) / 2) = (m : Int) := by omega
    have q2 : ((s.size : Int) % 2) = 0 := by omega
    have q3 : ((s.size : Int).tmod 2) = 0 := by rw [Int.tmod_eq_emod_of_nonneg (by omega)]; omega
    have q4 : ((s.size : Int).tdiv 2) = (m : Int) := by rw [Int.tdiv_eq_ediv_of_nonneg (by omega)]; omega
    have hmk := fun W => make_bytesN W m (by omega)
    go_enter Tryz.func26, Tryz.ntmps26
    go_wp2_with fail
    have hb0 : Blk (w.alloc (.cells (Lib.byteCells (List.replicate m 0)).toArray 5)) w.heap.size 5 (Lib.byteCells (List.replicate m 0)).toArray := Blk.new w _ _
    have HB0 := Lib.hid hb0
    clear hb0
    go_loopw [24] (fun i wr => ∃ (k : Nat) (d : List UInt8), k ≤ m ∧ i = .int .i64 (k : Int) ∧ d.length = k ∧ readHex (l.take (2 * k)) = some d ∧ Blk wr w.heap.size 5 (Lib.byteCells (d ++ List.replicate (m - k) 0)).toArray ∧ w.grownBy wr none) (fun i _ => m - (intOf i).toNat)
    case atStart => exact ⟨0, [], by omega, rfl, rfl, rfl, HB0.out, World.grownBy_alloc _ _ none⟩
    case round =>
      obtain ⟨k, d, hk, rfl, hd, hr, hB, hK⟩ := hrel
      have HK := Lib.hid (And.intro hd (And.intro hr (And.intro hB hK)))
      clear hd hr hK
      by_cases hlt : k < m
      · have d1 : decide ((k : Int) < (m : Int)) = true := by simp; omega
        have hget : (Lib.byteCells (d ++ List.replicate (m - k) 0)).toArray[k]? = some (.int .u8 0) := by
          have hd := HK.out.1
          simp only [Lib.byteCells, List.getElem?_toArray, List.getElem?_map]
          rw [List.getElem?_append_right (by omega), hd, Nat.sub_self, List.getElem?_replicate, if_pos (by omega)]; rfl
        have k1 : 2 * k < l.length := by rw [HL.out.2, hm]; omega
        have k2 : 2 * k + 1 < l.length := by rw [HL.out.2, hm]; omega
        obtain ⟨x, hx⟩ : ∃ x, l[2 * k]? = some x := ⟨_, List.getElem?_eq_getElem k1⟩
        obtain ⟨y, hy⟩ : ∃ y, l[2 * k + 1]? = some y := ⟨_, List.getElem?_eq_getElem k2⟩
        obtain ⟨X, hX⟩ : ∃ X : Int, X = (x.toNat : Int) := ⟨_, rfl⟩
        obtain ⟨Y, hY⟩ : ∃ Y : Int, Y = (y.toNat : Int) := ⟨_, rfl⟩
        have hi1 : ∀ W, Sem.run Tryz.prog (Instr.index 9 (.string s) (.int .i64 (2 * (k : Int)))) W = .ok (.int .u8 X) W := fun W => by
          have h := str_at s (2 * k) x (by rw [← HL.out.1]; exact hx) W
          rw [← hX] at h
          exact h
        have hi2 : ∀ W, Sem.run Tryz.prog (Instr.index 9 (.string s) (.int .i64 (2 * (k : Int) + 1))) W = .ok (.int .u8 Y) W := fun W => by
          have h := str_at s (2 * k + 1) y (by rw [← HL.out.1]; exact hy) W
          rw [← hY] at h
          exact h
        obtain ⟨U, hU⟩ : ∃ U, U = nibS x := ⟨_, rfl⟩
        obtain ⟨V, hV⟩ : ∃ V, V = nibS y := ⟨_, rfl⟩
        have C1 := Lib.hid (fun z : Gr wr => nib_gr x X hX U hU z.1)
        have C2 := Lib.hid (fun z : Gr wr => nib_gr y Y hY V hV z.1)
        have bU := nib_lt x
        have bV := nib_lt y
        rw [← hU] at bU
        rw [← hV] at bV
        have HX := Lib.hid (And.intro hx (And.intro hy (And.intro hU (And.intro hV hget))))
        have HB := Lib.hid hB
        clear hx hy hU hV hX hY hget hB k1 k2
        by_cases hu : U < 0
        · have d2 : decide (U < 0) = true := by simpa using hu
          have HN := Lib.hid (show bytesS l = none by
            unfold bytesS
            rw [if_neg HD.out, if_neg HE.out]
            obtain ⟨hx, hy, hU, hV, _⟩ := HX.out
            have e : l = l.take (2 * k) ++ (x :: y :: l.drop (2 * k + 2)) := by
              conv => lhs; rw [← List.take_append_drop (2 * k) l]
              rw [List.drop_eq_getElem_cons (by rw [HL.out.2, hm]; omega), List.drop_eq_getElem_cons (by rw [HL.out.2, hm]; omega)]
              obtain ⟨_, ex⟩ := List.getElem?_eq_some_iff.1 hx
              obtain ⟨_, ey⟩ := List.getElem?_eq_some_iff.1 hy
              rw [ex, ey]
            have hl2 : (l.take (2 * k)).length = 2 * k := by rw [List.length_take, HL.out.2, hm]; omega
            rw [e, readHex_append k _ _ hl2, HK.out.2.1]
            simp only []
            rw [readHex, if_pos (by rw [← hU, ← hV]; omega)]; rfl)
          go_upto_region 9 with (fail)
          refine wp_region_grown (by kernel_rfl) (by kernel_rfl) ?_
          repeat (go_big_quiet_step (first
            | (go_at_call 32; with_reducible exact Calls.grown _ (C1.out _))
            | (go_at_call 32; with_reducible exact Calls.grown _ (C2.out _))))
          refine wpQuiet_nil ?_
          rintro w2 ⟨⟨_, k2⟩, rfl⟩
          have HG := Lib.hid (grown_trans HK.out.2.2.2 k2)
          clear k2
          go_wp2_with fail
          rw [HQ.out]
          exact ⟨HG.out, by rw [HN.out]; exact ⟨none, 0, 0, rfl⟩⟩
        · by_cases hv : V < 0
          · have d2 : decide (U < 0) = false := by simpa using hu
            have d3 : decide (V < 0) = true := by simpa using hv
            have HN := Lib.hid (show bytesS l = none by
              unfold bytesS
              rw [if_neg HD.out, if_neg HE.out]
              obtain ⟨hx, hy, hU, hV, _⟩ := HX.out
              have e : l = l.take (2 * k) ++ (x :: y :: l.drop (2 * k + 2)) := by
                conv => lhs; rw [← List.take_append_drop (2 * k) l]
                rw [List.drop_eq_getElem_cons (by rw [HL.out.2, hm]; omega), List.drop_eq_getElem_cons (by rw [HL.out.2, hm]; omega)]
                obtain ⟨_, ex⟩ := List.getElem?_eq_some_iff.1 hx
                obtain ⟨_, ey⟩ := List.getElem?_eq_some_iff.1 hy
                rw [ex, ey]
              have hl2 : (l.take (2 * k)).length = 2 * k := by rw [List.length_take, HL.out.2, hm]; omega
              rw [e, readHex_append k _ _ hl2, HK.out.2.1]
              simp only []
              rw [readHex, if_pos (by rw [← hU, ← hV]; omega)]; rfl)
            go_upto_region 9 with (fail)
            refine wp_region_grown (by kernel_rfl) (by kernel_rfl) ?_
            repeat (go_big_quiet_step (first
              | (go_at_call 32; with_reducible exact Calls.grown _ (C1.out _))
              | (go_at_call 32; with_reducible exact Calls.grown _ (C2.out _))))
            refine wpQuiet_nil ?_
            rintro w2 ⟨⟨_, k2⟩, rfl⟩
            have HG := Lib.hid (grown_trans HK.out.2.2.2 k2)
            clear k2
            go_wp2_with fail
            rw [HQ.out]
            exact ⟨HG.out, by rw [HN.out]; exact ⟨none, 0, 0, rfl⟩⟩
          · have d2 : decide (U < 0) = false := by simpa using hu
            have d3 : decide (V < 0) = false := by simpa using hv
            go_upto_region 9 with (fail)
            refine wp_region_grown (by kernel_rfl) (by kernel_rfl) ?_
            repeat (go_big_quiet_step (first
              | (go_at_call 32; with_reducible exact Calls.grown _ (C1.out _))
              | (go_at_call 32; with_reducible exact Calls.grown _ (C2.out _))))
            refine wpQuiet_nil ?_
            rintro w2 ⟨⟨_, k2⟩, rfl⟩
            have hb2 := HB.out.grown k2 (by simp)
            have c0 := hb2.cell k
            have f0 := hb2.frozen k
            rw [HX.out.2.2.2.2] at c0
            have HB2 := Lib.hid (And.intro hb2 (grown_trans HK.out.2.2.2 k2))
            clear hb2
            go_wp2_with fail
            go_roundw
            case rel =>
              obtain ⟨hx, hy, hU, hV, _⟩ := HX.out
              obtain ⟨hd, hr, _, _⟩ := HK.out
              refine ⟨k + 1, d ++ [UInt8.ofNat (16 * U.toNat + V.toNat)], by omega, rfl, by simp [hd], ?_, ?_, grown_cell HB2.out.2 _ (Nat.le_refl _)⟩
              · have e : l.take (2 * (k + 1)) = l.take (2 * k) ++ [x, y] := by
                  rw [show 2 * (k + 1) = 2 * k + 1 + 1 by omega, List.take_add_one, List.take_add_one, hx, hy]
                  simp
                have hl2 : (l.take (2 * k)).length = 2 * k := by rw [List.length_take, HL.out.2, hm]; omega
                rw [e, readHex_append k _ _ hl2, hr]
                simp only []
                rw [readHex, if_neg (by rw [← hU, ← hV]; omega), ← hU, ← hV]
                rfl
              · have hz : bits BinOp.or IntKind.i64 (U * 16) V % 256 = ((UInt8.ofNat (16 * U.toNat + V.toNat)).toNat : Int) := by
                  rw [or_nib (by omega) (by omega)]
                  simp; omega
                have h1 := HB2.out.1.set k (.int .u8 (bits BinOp.or IntKind.i64 (U * 16) V % 256))
                rw [hz] at h1 ⊢
                have hrep : List.replicate (m - k) (0 : UInt8) = 0 :: List.replicate (m - (k + 1)) 0 := by
                  rw [show m - k = (m - (k + 1)) + 1 by omega, List.replicate_succ]
                rw [hrep, ← hd, bytes_set] at h1
                rw [List.append_assoc, ← hd]
                exact h1
            case measure => simp [intOf]; omega
      · have d1 : decide ((k : Int) < (m : Int)) = false := by simp; omega
        obtain rfl : k = m := by omega
        have HN := Lib.hid (show bytesS l = some d by
          unfold bytesS
          rw [if_neg HD.out, if_neg HE.out]
          have := HK.out.2.1
          rwa [List.take_of_length_le (by rw [HL.out.2, hm]; exact Nat.le_refl _)] at this)
        have hB2 := hB
        rw [Nat.sub_self, List.replicate_zero, List.append_nil] at hB2
        have hdl := HK.out.1
        have HO := Lib.hid (own_of_blk (n := k) hB2 (Nat.le_refl _) (by simp [Lib.byteCells, hdl]) (by unfold maxLen; omega))
        clear hB hB2
        go_wp2_with fail
        rw [HQ.out]
        refine ⟨HK.out.2.2.2, ?_⟩
        rw [HN.out]
        simp only []
        rw [hdl]
        exact ⟨_, _, rfl, HO.out⟩
  · have q2 : ((s.size : Int) % 2) = 1 := by omega
    have q3 : ((s.size : Int).tmod 2) = 1 := by rw [Int.tmod_eq_emod_of_nonneg (by omega)]; omega
    have HN := Lib.hid (show bytesS l = none by
      unfold bytesS
      rw [if_neg HD.out, if_neg HE.out]
      have e : l = l.take (2 * m) ++ [l[2 * m]'(by rw [HL.out.2, hm]; omega)] := by
        conv => lhs; rw [← List.take_append_drop (2 * m) l]
        rw [List.drop_eq_getElem_cons (by rw [HL.out.2, hm]; omega), List.drop_of_length_le (by rw [HL.out.2, hm]; omega)]
      rw [e, readHex_append m _ _ (by rw [List.length_take, HL.out.2, hm]; omega)]
      cases readHex (l.take (2 * m)) <;> simp [readHex])
    go_enter Tryz.func26, Tryz.ntmps26
    go_wp2_with fail
    rw [HQ.out]
    exact ⟨World.grownBy.refl _ _, by rw [HN.out]; exact ⟨none, 0, 0, rfl⟩⟩
end Go.Proofs.YtonkdcbmmdhjgaaGreatDoor
