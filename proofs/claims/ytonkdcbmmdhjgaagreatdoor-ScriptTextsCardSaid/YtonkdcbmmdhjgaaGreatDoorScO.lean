/-
  script.Line.
-/
import Derived.Test.YtonkdcbmmdhjgaaGreatDoorScN
import Derived.Test.YtonkdcbmmdhjgaaGreatDoorScJ
import Derived.Test.YtonkdcbmmdhjgaaGreatDoorEv
namespace Go.Proofs.YtonkdcbmmdhjgaaGreatDoor
open Go.RowKit Go.Shelf

/-- The lists of an op of one's own. -/
theorem ints_ownS {w : World} {base n c : Nat} {A : Option Addr} {l : List Int} (h : w.ownsRow base 3 1 (.slice A n c) n (l.map (Value.int .i64))) : IntsAt w A l := fun hne => by
  rcases h.2 with ⟨e, hl⟩ | ⟨g, cap, cur, e, _, hh, _, _, hs, ht⟩
  · injection e with e1 e2 e3
    subst e1 e2 e3
    exact absurd (by have := h.1; simpa using this) hne
  · injection e with e1 e2 e3
    subst e1 e3
    have hn : l.length = n := by have := h.1; simpa using this
    subst hn
    refine ⟨_, rfl, fun j hj => ?_⟩
    have hb : Blk w g 3 cur := hh
    rw [Go.WideShapes.add_plain, Nat.zero_add, hb.cell j]
    have hj2 : (cur.toList.take (l.length * 1))[j]? = some (.int .i64 l[j]) := by rw [ht, List.getElem?_map, List.getElem?_eq_getElem hj]; rfl
    rw [List.getElem?_take] at hj2
    split at hj2
    · simpa using hj2
    · cases hj2
theorem bools_ownS {w : World} {base n c : Nat} {A : Option Addr} {l : List Bool} (h : w.ownsRow base 4 1 (.slice A n c) n (l.map Value.bool)) : BoolsAt w A l := fun hne => by
  rcases h.2 with ⟨e, hl⟩ | ⟨g, cap, cur, e, _, hh, _, _, hs, ht⟩
  · injection e with e1 e2 e3
    subst e1 e2 e3
    exact absurd (by have := h.1; simpa using this) hne
  · injection e with e1 e2 e3
    subst e1 e3
    have hn : l.length = n := by have := h.1; simpa using this
    subst hn
    refine ⟨g, 0, rfl, fun j hj => ?_⟩
    have hb : Blk w g 4 cur := hh
    rw [Nat.zero_add, hb.cell j]
    have hj2 : (cur.toList.take (l.length * 1))[j]? = some (.bool l[j]) := by rw [ht, List.getElem?_map, List.getElem?_eq_getElem hj]; rfl
    rw [List.getElem?_take] at hj2
    split at hj2
    · simpa using hj2
    · cases hj2
theorem bytes_ownS {w : World} {base n c : Nat} {A : Option Addr} {l : List UInt8} (h : w.ownsRow base 5 1 (.slice A n c) n (Lib.byteCells l)) : BytesAt w A l := fun hne => by
  rcases h.2 with ⟨e, hl⟩ | ⟨g, cap, cur, e, _, hh, _, _, hs, ht⟩
  · injection e with e1 e2 e3
    subst e1 e2 e3
    exact absurd (by have := h.1; simpa [Lib.byteCells] using this) hne
  · injection e with e1 e2 e3
    subst e1 e3
    have hn : l.length = n := by have := h.1; simpa [Lib.byteCells] using this
    subst hn
    refine ⟨_, rfl, fun j hj => ?_⟩
    have hb : Blk w g 5 cur := hh
    rw [Go.WideShapes.add_plain, Nat.zero_add, hb.cell j]
    have hj2 : (cur.toList.take (l.length * 1))[j]? = some (.int .u8 l[j].toNat) := by rw [ht, Lib.byteCells, List.getElem?_map, List.getElem?_eq_getElem hj]; rfl
    rw [List.getElem?_take] at hj2
    split at hj2
    · simpa using hj2
    · cases hj2
theorem OpM.Own.at {w : World} {base : Nat} {o : OpM} (h : o.Own w base) : o.At w := ⟨ints_ownS h.1, bools_ownS h.2.1, bytes_ownS h.2.2⟩
/-- What a load of an op by value gives. -/
theorem loadat_op {V : World} {g : Nat} {t : TypeId} {o : OpM} (h : Blk V g t o.val) : (Instr.loadAt 29 (.pointer (some ⟨g, 0, none⟩))).run Tryz.prog V = .ok (.agg #[.int .i64 o.v.kind, .int .i64 o.v.node, .int .i64 o.v.n, .slice o.A1 o.v.set.length o.c1, .slice o.A2 o.v.keep.length o.c2, .slice o.A3 o.v.data.length o.c3]) V := by
  have h0 : V.cell? ⟨g, 0, none⟩ = some (.int .i64 o.v.kind) := h.cell 0
  have h1 : V.cell? ⟨g, 1, none⟩ = some (.int .i64 o.v.node) := h.cell 1
  have h2 : V.cell? ⟨g, 2, none⟩ = some (.int .i64 o.v.n) := h.cell 2
  have h3 : V.cell? ⟨g, 3, none⟩ = some (.slice o.A1 o.v.set.length o.c1) := h.cell 3
  have h4 : V.cell? ⟨g, 4, none⟩ = some (.slice o.A2 o.v.keep.length o.c2) := h.cell 4
  have h5 : V.cell? ⟨g, 5, none⟩ = some (.slice o.A3 o.v.data.length o.c3) := h.cell 5
  go_simp
theorem orDash_le {t : List UInt8} {B : Nat} (h : t.length ≤ B) (hB : 1 ≤ B) : (orDash t).length ≤ B := by
  unfold orDash; split
  · simpa using hB
  · exact h
theorem writeS_le {o : OpV} (h : o.Fit) (c : UInt8) : (writeS o c).length ≤ 80000 := by
  have h1 := Lib.itoa_length_le _ h.node.1 h.node.2
  have h2 := Lib.itoa_length_le _ h.n.1 h.n.2
  have h3 := joinP_le (B := 21) 44 (o.set.map Lib.itoa) (fun p hp => by
    obtain ⟨z, hz, rfl⟩ := List.mem_map.1 hp
    exact Lib.itoa_length_le z (h.each z hz).1 (h.each z hz).2)
  rw [List.length_map] at h3
  have h4 := h.set
  have h5 := h.keep
  have h6 := h.data
  have h7 := writeHex_len o.data
  unfold writeS
  split
  · omega
  split
  · omega
  split
  · exact orDash_le (by omega) (by omega)
  split
  · exact orDash_le (by omega) (by omega)
  split
  · exact orDash_le (by rw [List.length_map]; omega) (by omega)
  · simp
theorem word_le (k : Int) : (shapeS k).1.length ≤ 20 := by
  rcases shape_cases k with (rfl | rfl | rfl | rfl | rfl | rfl | rfl | rfl | rfl | rfl) | ⟨_, h2⟩
  iterate 10 · decide
  · rw [h2]; decide
theorem cat_strB (a b : List UInt8) : strB a ++ strB b = strB (a ++ b) := ByteArray.mk_append_mk a b
/-- What Line leaves. -/
def LinePost (w : World) (EF : Addr) (o : OpV) (e : Ending) (w' : World) : Prop := w.grownBy w' none ∧ match lineS o with
  | some l => e = .returned (.tuple #[.string (strB l), .nilIface])
  | none => e = .returned (.tuple #[.string ⟨#[]⟩, errV EF])
set_option maxRecDepth 100000 in
set_option maxHeartbeats 2000000 in
theorem line_is (w : World) (he : ScEnv w) (EF : Addr) (hEF : ErrAt w w.heap.size 0 EF) (o : OpM) (ho : o.At w) (hf : o.v.Fit) : Calls Tryz.prog 7 #[.agg o.val] w (LinePost w EF o.v) := by
  obtain ⟨Q, hQ⟩ : ∃ Q, Q = LinePost w EF o.v := ⟨_, rfl⟩
  rw [← hQ]
  have HQ := Lib.hid hQ
  have HL := Lib.hid (And.intro he (And.intro hEF (And.intro ho hf)))
  clear hQ he hEF ho hf
  show Calls Tryz.prog 7 #[.agg #[.int .i64 o.v.kind, .int .i64 o.v.node, .int .i64 o.v.n, .slice o.A1 o.v.set.length o.c1, .slice o.A2 o.v.keep.length o.c2, .slice o.A3 o.v.data.length o.c3]] w Q
  obtain ⟨K, hK⟩ : ∃ K, K = o.v.kind := ⟨_, rfl⟩
  obtain ⟨wd, hwd⟩ : ∃ wd, wd = (shapeS K).1 := ⟨_, rfl⟩
  obtain ⟨cs, hcs⟩ : ∃ cs, cs = (shapeS K).2 := ⟨_, rfl⟩
  have HS := Lib.hid (fun W => shape_is K W)
  rw [← hwd, ← hcs] at HS
  have hcl : cs.length ≤ 3 := by rw [hcs]; exact shape_le K
  have HP := Lib.hid (And.intro hK (And.intro hwd hcs))
  rw [← hK]
  clear hwd hcs hK
  go_enter Tryz.func7, Tryz.ntmps7
  go_wp2_with fail
  refine (HS.out _).mono ?_
  rintro e w1 ⟨rfl, rfl⟩
  go_wp2_with fail
  rw [strB_size]
  obtain ⟨m, hm⟩ : ∃ m, m = cs.length := ⟨_, rfl⟩
  rw [← hm] at hcl ⊢
  obtain ⟨W0, hW0⟩ : ∃ W0, (w.alloc (.cells #[.int .i64 K, .int .i64 o.v.node, .int .i64 o.v.n, .slice o.A1 o.v.set.length o.c1, .slice o.A2 o.v.keep.length o.c2, .slice o.A3 o.v.data.length o.c3] 29)).alloc (.cells #[.int .i64 0, .int .i64 0, .int .i64 0, .slice none 0 0, .slice none 0 0, .slice none 0 0] 29) = W0 := ⟨_, rfl⟩
  have b1 : Blk W0 w.heap.size 29 o.val := by rw [← hW0, HP.out.1]; exact (Blk.new w _ _).alloc _
  have b2 : Blk W0 (w.heap.size + 1) 29 OpM.zero.val := by
    have := Blk.new (w.alloc (.cells #[.int .i64 K, .int .i64 o.v.node, .int .i64 o.v.n, .slice o.A1 o.v.set.length o.c1, .slice o.A2 o.v.keep.length o.c2, .slice o.A3 o.v.data.length o.c3] 29)) 29 OpM.zero.val
    rw [World.size_alloc] at this
    rw [← hW0]; exact this
  have hg : w.grownBy W0 none := by rw [← hW0]; exact grown_trans (World.grownBy_alloc w _ none) (World.grownBy_alloc _ _ none)
  have hsz : W0.heap.size = w.heap.size + 2 := by rw [← hW0]; simp
  have H0 := Lib.hid (And.intro b1 (And.intro b2 (And.intro hg (And.intro hsz hm))))
  rw [hW0]
  clear b1 b2 hg hsz hm hW0
  go_loopw [6, 19] (fun s i wr => ∃ (k : Nat) (acc : List UInt8) (back : OpM), k ≤ m ∧ i = .int .i64 (k : Int) ∧ s = .string (strB acc) ∧ Hid (lineGo o.v (cs.drop k) back.v acc = lineGo o.v cs OpV.zero wd ∧ Blk wr w.heap.size 29 o.val ∧ Blk wr (w.heap.size + 1) 29 back.val ∧ back.Own wr (w.heap.size + 2) ∧ w.heap.size + 2 ≤ wr.heap.size ∧ w.grownBy wr none ∧ acc.length ≤ 20 + 100000 * k)) (fun _ i _ => m - (intOf i).toNat)
  case atStart => exact ⟨0, wd, OpM.zero, Nat.zero_le _, rfl, rfl, Lib.hid ⟨rfl, H0.out.1, H0.out.2.1, OpM.zero_own _ _, by rw [H0.out.2.2.2.1]; exact Nat.le_refl _, H0.out.2.2.1, by have := word_le K; rw [← HP.out.2.1] at this; omega⟩⟩
  case round =>
    obtain ⟨k, acc, back, hk, rfl, rfl, HI⟩ := hrel
    rename World => wr
    by_cases hlt : k < m
    · have d1 : decide ((k : Int) < (m : Int)) = true := by simp; omega
      have hkl : k < cs.length := by rw [← H0.out.2.2.2.2]; exact hlt
      obtain ⟨c, hc⟩ : ∃ c, c = cs[k] := ⟨_, rfl⟩
      have hcq : cs[k]? = some c := by rw [hc]; exact List.getElem?_eq_getElem hkl
      obtain ⟨C, hC⟩ : ∃ C : Int, C = (c.toNat : Int) := ⟨_, rfl⟩
      have hix : ∀ W, Sem.run Tryz.prog (Instr.index 9 (.string (strB cs)) (.int .i64 (k : Int))) W = .ok (.int .u8 C) W := fun W => by rw [hC]; exact str_at _ k c (by rw [strB_list]; exact hcq) W
      obtain ⟨T, hT⟩ : ∃ T, T = strB (writeS o.v c) := ⟨_, rfl⟩
      obtain ⟨va, hva⟩ : ∃ va, va = o.val := ⟨_, rfl⟩
      have V1 := Lib.hid (fun z : Gr wr => show (Instr.loadAt 29 (.pointer (some ⟨w.heap.size, 0, none⟩))).run Tryz.prog z.1 = .ok (.agg va) z.1 by rw [hva]; exact loadat_op (HI.out.2.1.grown z.2 (by simp)))
      have C1 := Lib.hid (fun z : Gr wr => show Calls Tryz.prog 13 #[.agg va, .int .u8 C] z.1 fun e w' => e = .returned (.string T) ∧ z.1.grownBy w' none by
        have g := grown_trans HI.out.2.2.2.2.2.1 z.2
        have h := write_is z.1 (HL.out.1.grown g) o (HL.out.2.2.1.gr g) HL.out.2.2.2 c C hC
        rw [← hT] at h
        rw [hva]; exact h)
      have hdr : cs.drop k = c :: cs.drop (k + 1) := by rw [List.drop_eq_getElem_cons hkl, ← hc]
      have HC := Lib.hid (And.intro hC (And.intro hT hdr))
      clear hc hcq hC hT hkl hdr hva
      go_upto_region 7 with (fail)
      refine wp_region_grown (by kernel_rfl) (by kernel_rfl) ?_
      repeat (first
        | (refine wpQuiet_load_row 29 _ ⟨w.heap.size, 0, none⟩ (.agg va) (by rfl) rfl rfl (by rintro _ ⟨z, rfl⟩; exact V1.out z) ?_; simp only [Act.put, List.setIfInBounds_toArray, List.set_cons_zero, List.set_cons_succ])
        | go_big_quiet_step (first
          | (go_at_call 13; with_reducible exact Calls.grown _ (C1.out _))))
      refine wpQuiet_nil ?_
      rintro w2 ⟨⟨_, k2⟩, rfl⟩
      have HR := Lib.hid (show Calls Tryz.prog 14 #[.pointer (some ⟨w.heap.size + 1, 0, none⟩), .int .u8 C, .string T] w2 (ReadPost w2 (w.heap.size + 1) (w.heap.size + 2) c (writeS o.v c) back) by
        have h := read_is w2 (HL.out.1.grown (grown_trans HI.out.2.2.2.2.2.1 k2)) (w.heap.size + 1) (w.heap.size + 2) back (HI.out.2.2.1.grown k2 (by simp)) (HI.out.2.2.2.1.grown k2) (Nat.le_trans HI.out.2.2.2.2.1 k2.size) c C HC.out.1 (strB (writeS o.v c)) (by rw [strB_size]; have := writeS_le HL.out.2.2.2 c; omega)
        rw [strB_list, ← HC.out.2.1] at h
        exact h)
      have HG2 := Lib.hid k2
      clear k2 V1 C1
      go_wp2_with fail
      refine HR.out.mono ?_
      rintro e w3 ⟨k3, hpost⟩
      have HG3 := Lib.hid (show w.grownBy w3 none from grown_fresh (grown_trans HI.out.2.2.2.2.2.1 HG2.out) k3 (by omega))
      cases hrs : readS c (writeS o.v c) back.v with
      | none =>
        rw [hrs] at hpost
        subst hpost
        have HN := Lib.hid (show lineS o.v = none by
          unfold lineS
          split
          · rfl
          · rw [← HP.out.1, ← HP.out.2.1, ← HP.out.2.2, ← HI.out.1, HC.out.2.2, lineGo, hrs])
        have eF := HL.out.2.1.grown HG3.out (by simp)
        have c1 := Gr.cell eF.1
        clear k3 hrs eF
        go_upto_region 9 with (fail)
        refine wp_region_grown (by kernel_rfl) (by kernel_rfl) ?_
        repeat (go_big_quiet_step (fail))
        refine wpQuiet_nil ?_
        rintro w4 ⟨⟨_, k4⟩, rfl⟩
        have HK4 := Lib.hid (grown_trans HG3.out k4)
        clear k4 c1
        go_wp2_with fail
        rw [HQ.out]
        exact ⟨HK4.out, by rw [HN.out]; rfl⟩
      | some v =>
        rw [hrs] at hpost
        obtain ⟨back', hv, rfl, hb', ho'⟩ := hpost
        have HN := Lib.hid (And.intro hrs (And.intro hv (And.intro hb' (And.intro ho' (And.intro (HI.out.2.1.grown (grown_trans (grown_weak HG2.out (some (w.heap.size + 1))) k3) (by simp)) (Nat.le_trans HI.out.2.2.2.2.1 (Nat.le_trans HG2.out.size k3.size)))))))
        clear k3 hrs hv hb' ho'
        have hTs : T.size ≤ 80000 := by rw [HC.out.2.1, strB_size]; exact writeS_le HL.out.2.2.2 c
        have hal : (strB acc).size ≤ 20 + 100000 * k := by rw [strB_size]; exact HI.out.2.2.2.2.2.2
        have hk3 : k ≤ 3 := by omega
        have hct1 : ¬ 9223372036854775807 < 1 + T.size := by omega
        have hct2 : ¬ 9223372036854775807 < (strB acc).size + (1 + T.size) := by omega
        clear hTs hal hk3
        go_wp2_with fail
        go_roundw
        case rel =>
          refine ⟨k + 1, acc ++ 32 :: writeS o.v c, back', by omega, rfl, ?_, Lib.hid ⟨?_, HN.out.2.2.2.2.1, HN.out.2.2.1, HN.out.2.2.2.1, HN.out.2.2.2.2.2, HG3.out, ?_⟩⟩
          · rw [HC.out.2.1, show (⟨#[32]⟩ : ByteArray) = strB [32] from rfl, cat_strB, cat_strB]; rfl
          · rw [← HI.out.1, HC.out.2.2, lineGo, HN.out.1, HN.out.2.1]
          · have := HI.out.2.2.2.2.2.2
            have := writeS_le HL.out.2.2.2 c
            rw [List.length_append, List.length_cons]
            omega
        case measure => simp [intOf]; omega
    · have d1 : decide ((k : Int) < (m : Int)) = false := by simp; omega
      obtain rfl : k = m := by omega
      have hgo := HI.out.1
      rw [List.drop_of_length_le (by rw [← H0.out.2.2.2.2]; exact Nat.le_refl _), lineGo] at hgo
      by_cases hw : wd = []
      · have HN := Lib.hid (show lineS o.v = none by
          unfold lineS
          rw [← HP.out.1, ← HP.out.2.1, if_pos hw])
        subst hw
        rw [strB_nil]
        have eF := HL.out.2.1.grown HI.out.2.2.2.2.2.1 (by simp)
        have c1 := Gr.cell eF.1
        have HK := Lib.hid HI.out.2.2.2.2.2.1
        clear hgo eF HI
        go_upto_region 13 with (fail)
        refine wp_region_grown (by kernel_rfl) (by kernel_rfl) ?_
        repeat (go_big_quiet_step (fail))
        refine wpQuiet_nil ?_
        rintro w4 ⟨⟨_, k4⟩, rfl⟩
        have HK4 := Lib.hid (grown_trans HK.out k4)
        clear k4 c1
        go_wp2_with fail
        rw [HQ.out]
        exact ⟨HK4.out, by rw [HN.out]; rfl⟩
      · have HN := Lib.hid (show lineS o.v = some acc by
          unfold lineS
          rw [← HP.out.1, ← HP.out.2.1, if_neg hw, ← HP.out.2.2, ← hgo])
        have dw := lit_neB (s := strB wd) (a := []) fun e => hw (by have := strB_list wd; rw [e] at this; exact this.symm)
        clear hgo hw
        go_wp2_with fail
        rw [HQ.out]
        exact ⟨HI.out.2.2.2.2.2.1, by rw [HN.out]; rfl⟩
end Go.Proofs.YtonkdcbmmdhjgaaGreatDoor
