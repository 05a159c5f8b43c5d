/-
  Several texts in one: Arr2, ChPb.
-/
import Derived.Test.YtjcbfenkpdpbeaaDoorArr
import Derived.Test.YtjcbfenkpdpbeaaDoorAv
import Derived.Test.YtjcbfenkpdpbeaaDoorChSigns
/-
  Two arrays of numbers in one: as an argument; one of them by its index.
-/
namespace Go.Proofs.YtjcbfenkpdpbeaaDoor
open Go.ChangeShapes Go.WideShapes Go.ChangeAt Go.RowKit

section
variable {H : Type} {enc : TypeId × Value → H} {P : Program} {w : World} {base : Nat} {spare : Nat → Bool} {held : Bool}
theorem arg_arr2 {r : Reach} {b0 : Nat} {t e u : TypeId} {m : Nat} {q : IntKind} {v : Value} {d : DataW H} {p : List MemPlace} (ht : P.underlying t = some (.array 2 e)) (he : P.underlying e = some (.array m u)) (hu : P.underlying u = some (.int q)) (hcu : P.cellsOf u = 1) (hce : P.cellsOf e = m) (hct : P.cellsOf t = 2 * m)
    (hv : Value.okWide P w r b0 t v) (h : DataW.Trod enc P w base spare held t v d p) : ∃ l0 l1 : List Int, v = .agg ((l0 ++ l1).map (Value.int q)).toArray ∧ (l0.length = m ∧ ∀ z ∈ l0, (Lit.int q z).wf = true) ∧ (l1.length = m ∧ ∀ z ∈ l1, (Lit.int q z).wf = true) := by
  obtain ⟨cs, rfl, _⟩ := okWide_array ht hv
  obtain ⟨fuel, hf⟩ := h
  have hf' : DataW.trod enc P w base spare held fuel t cs.toList = some (d, p) := hf
  obtain ⟨xs, k, _, _, hlen, hxl, hi⟩ := DataW.trod_array ht hf'
  have e0 := hi 0 (by omega)
  have e1 := hi 1 (by omega)
  rw [List.getElem?_eq_getElem (by omega)] at e0 e1
  obtain ⟨l0, h0, hl0, _, hw0⟩ := arr_of_trod he hu hcu hce e0
  obtain ⟨l1, h1, hl1, _, hw1⟩ := arr_of_trod he hu hcu hce e1
  refine ⟨l0, l1, ?_, ⟨hl0, hw0⟩, ⟨hl1, hw1⟩⟩
  have : cs.toList = (l0 ++ l1).map (Value.int q) := by
    rw [List.map_append, ← h0, ← h1, hce, Nat.zero_mul, List.drop_zero, Nat.one_mul]
    have hl2 : (cs.toList.drop m).length = m := by rw [List.length_drop, hlen, hct]; omega
    rw [List.take_of_length_le (Nat.le_of_eq hl2), List.take_append_drop]
  rw [← this]
end
theorem index_two {P : Program} (w : World) {t e u : TypeId} {m : Nat} {q : IntKind} (ht : P.underlying t = some (.array 2 e)) (he : P.underlying e = some (.array m u)) (hs : (P.info? e).map (·.size) = some m) (l0 l1 : List Int) (h0 : l0.length = m) (h1 : l1.length = m) (I : Int) (k : Nat) (hI : I = (k : Int)) (hk : k < 2) :
    Sem.run P (Instr.index t (.agg (arrV q (l0 ++ l1))) (.int .i64 I)) w = .ok (.agg (arrV q (if k = 0 then l0 else l1))) w := by
  cases hq : P.info? e with
  | none => simp [hq] at hs
  | some i =>
    have hi : i.size = m := by simpa [hq] using hs
    have hb : 0 ≤ I ∧ I < 2 := by omega
    have hn : I.toNat = k := by omega
    have hx : List.take m (List.drop (k * m) (l0.map (Value.int q) ++ l1.map (Value.int q))) = (if k = 0 then l0 else l1).map (Value.int q) := by
      have : k = 0 ∨ k = 1 := by omega
      rcases this with rfl | rfl
      · rw [Nat.zero_mul, List.drop_zero, List.take_append_of_le_length (by simp [h0]), List.take_of_length_le (by simp [h0]), if_pos rfl]
      · rw [Nat.one_mul, List.drop_append_of_le_length (by simp [h0]), List.drop_of_length_le (by simp [h0]), List.nil_append, List.take_of_length_le (by simp [h1]), if_neg (by omega)]
    simp [Instr.index, run_underlying ht, asIntOf, hb, hn, sizeOf, typeInfo, hq, hi, part, isAgg, run_underlying he, hx]
end Go.Proofs.YtjcbfenkpdpbeaaDoor
/-
  ChainsPublic, walked.
-/
namespace Go.Proofs.YtjcbfenkpdpbeaaDoor
open Go.RowKit

theorem wpList_load_row_w {P : Program} {ops : Array Oper} {rest : List Oper} {o : Oper} {a : Act} {w : World} {Q : Exit → Act → World → Prop} (hw : Region.wanted o (yielded ops a.tmps) = true) (ty : TypeId) (x : Operand) (ho : o.op = .load ty x)
    (g : Nat) (hx : a.eval x = .pointer (some ⟨g, 0, none⟩)) (t : TypeId) (cs : Array Value) (fr : Nat × Nat) (d : TypeDesc) (hg : w.heap[g]? = some (.cells cs t fr))
    (hu : P.underlying ty = some d) (hd : (match d with | .struct _ | .array _ _ => true | _ => false) = true) (hi : (P.info? ty).map (·.size) = some cs.size)
    (h : wpList P ops Q rest (a.put o.dst (.agg cs)) w) : wpList P ops Q (o :: rest) a w :=
  wpList_step fun K hK => by
    rw [if_pos hw]
    unfold Oper.wp execOp
    simp only [ho, hx, Instr.loadAt, Instr.sureAddr, Sem.run_bind, Sem.run_pure, Result.andThen_ok, run_loadVar_row w g t ty cs fr d hg hu hd hi]
    exact hK _ _ h
theorem leaf_mod2 (leaf : Int) : ∃ u lf : Int, IntKind.u64.wrap leaf = u ∧ leaf % 18446744073709551616 = u ∧ 0 ≤ u ∧ u.tmod 32 = lf ∧ u % 32 = lf ∧ IntKind.i64.wrap lf = lf ∧ 0 ≤ lf ∧ lf < 32 :=
  ⟨leaf % 18446744073709551616, leaf % 18446744073709551616 % 32, by rw [IntKind.wrap_u64], rfl, by omega, Int.tmod_eq_emod_of_nonneg (by omega), rfl, by rw [IntKind.wrap_i64]; omega, by omega, by omega⟩
theorem dig_zero : ∀ k, k < 64 → digN zeroC k = 0 := by decide +kernel
theorem sig_zero (seed : List Int) (lf : Int) (k : Nat) (h : k < 64) : sigS seed lf zeroC k = secC seed lf k := by rw [sigS, dig_zero k h, runC]

set_option maxRecDepth 100000 in
set_option maxHeartbeats 4000000 in
theorem public_main (w : World) (hR : Rounds w) (seed : List Int) (hs : isDig seed) (leaf : Int) (l0 l1 : List Int) (h0 : isDig l0) (h1 : isDig l1) :
    Calls Tryd.prog 7 #[.agg (arrV .u8 seed), .int .i64 leaf, .agg (arrV .u8 (l0 ++ l1))] w fun e w' => e = .returned (.bool true) ∧ w.grownBy w' none := by
  obtain ⟨u, lf, hu1, hu2, hu0, hu3, hu4, hu5, hlf⟩ := leaf_mod2 leaf
  obtain ⟨Z16, hZ16⟩ : ∃ Z, Z = arrV .u8 (List.replicate 16 0) := ⟨_, rfl⟩
  have hz16 : ∀ w, Sem.run Tryd.prog (zeroValue 23) w = .ok (.agg Z16) w := fun w => by rw [hZ16]; exact z16run w
  have hZs : Z16.size = 16 := by rw [hZ16]; rfl
  obtain ⟨ds, hds⟩ : ∃ ds, ds = arrV .u8 seed := ⟨_, rfl⟩
  obtain ⟨tw, htw⟩ : ∃ tw, tw = arrV .u8 (l0 ++ l1) := ⟨_, rfl⟩
  have kix : ∀ (w : World) (I : Int) (k : Nat) (dk : Array Value), I = (k : Int) → k < 2 → dk = arrV .u8 (if k = 0 then l0 else l1) → Sem.run Tryd.prog (Instr.index 47 (.agg tw) (.int .i64 I)) w = .ok (.agg dk) w := fun w I k dk hI hk hdk => by
    rw [htw, hdk]
    exact index_two w Tryd.underlying47 Tryd.underlying23 info16 l0 l1 h0.1 h1.1 I k hI hk
  have KIX := Lib.hid kix
  rw [← hds, ← htw]
  obtain ⟨rs, hrs⟩ : ∃ rs, rs = arrV .u8 (pubS seed lf) := ⟨_, rfl⟩
  have h16 : ds.size = 16 ∧ tw.size = 32 ∧ rs.size = 16 := ⟨by rw [hds, arr_size, hs.1], by rw [htw, arr_size, List.length_append, h0.1, h1.1], by rw [hrs, arr_size]; exact (pubS_dig _ _).1⟩
  have HI2 := Lib.hid (show (Tryd.prog.info? 47).map (·.size) = some 32 by kernel_rfl)
  have hq := eqDG (pubS seed lf) (pubS_dig _ _).1 rs hrs
  have HD := Lib.hid (And.intro h16.1 (And.intro h16.2.1 (And.intro hZs (And.intro h16.2.2 (show (rs.all fun x => x.oneCell') = true by rw [hrs]; exact arr_one _ _)))))
  have HN := Lib.hid (show isDig seed ∧ (∀ k, k < 2 → isDig (if k = 0 then l0 else l1)) ∧ Rounds w ∧ (0 ≤ lf ∧ lf < 32) ∧ ds = arrV .u8 seed ∧ Z16 = arrV .u8 zeroC from ⟨hs, fun k _ => by split <;> assumption, hR, hlf, hds, hZ16⟩)
  have S1 := Lib.hid (fun (z : World) (hz : w.grownBy z none) => pub_v z (hR.grown hz (by simp)) seed hs lf hlf ds rs hds hrs)
  have S2 := Lib.hid (fun (z : World) (hz : w.grownBy z none) (d : List Int) (hd : isDig d) (dd : Array Value) (hdd : dd = arrV .u8 d) => sign_v z (hR.grown hz (by simp)) seed hs lf hlf d hd ds dd hds hdd)
  have S0 := Lib.hid (fun (z : World) (hz : w.grownBy z none) (d : List Int) (hd : isDig d) (dd : Array Value) (hdd : dd = arrV .u8 d) (b : Nat) (hD : DigsAt z b 0 (sigsS seed lf d)) => back_v z (hR.grown hz (by simp)) lf hlf b 0 68 seed d hd hD dd rs hdd hrs)
  clear hrs hds htw hR hs hlf hZ16 hZs h16 h0 h1 kix
  go_enter Tryd.func7, Tryd.ntmps7
  go_wp2_with fail
  refine (alive_is _).mono ?_
  rintro e w1 ⟨rfl, hk1⟩
  have hb1 := Blk.new (w.alloc (.cells ds 23)) 47 tw
  rw [World.size_alloc] at hb1
  have HB1 := Lib.hid (And.intro (((Blk.new w 23 ds).alloc (.cells tw 47)).grown hk1 (by simp)) (And.intro (hb1.grown hk1 (by simp)) (grown_trans (grown_trans (World.grownBy_alloc w (.cells ds 23) none) (World.grownBy_alloc _ (.cells tw 47) none)) hk1)))
  clear hk1 hb1
  go_wp2_with (refine wpList_load_row rfl 23 _ rfl w.heap.size rfl 23 ds (0, 0) _ HB1.out.1 Tryd.underlying23 rfl (by rw [HD.out.1]; exact info16) ?_)
  refine (S1.out w1 HB1.out.2.2).mono ?_
  rintro e w2 ⟨rfl, hk2⟩
  have HK2 := Lib.hid hk2
  clear hk2
  go_wp2_with (first
    | (refine wpList_store_row rfl 23 _ _ rfl w2.heap.size rs rfl rfl 23 _ (heap_alloc_new w2 _) (by rw [HD.out.2.2.2.1]; exact info16) (by rw [HD.out.2.2.1, HD.out.2.2.2.1]) HD.out.2.2.2.2 ?_
       obtain ⟨p7, hp7⟩ : ∃ p, p = w2.heap.size := ⟨_, rfl⟩
       obtain ⟨w3, hw3⟩ : ∃ w3, w3 = (w2.alloc (.cells Z16 23)).setRow p7 rs := ⟨_, rfl⟩
       rw [← hp7, ← hw3]
       have HB3 := Lib.hid (show Blk w3 p7 23 rs ∧ Blk w3 w.heap.size 23 ds ∧ Blk w3 (w.heap.size + 1) 47 tw ∧ w.grownBy w3 none from by
         rw [hw3, hp7]
         have hg3 := grown_trans HK2.out (grown_row (World.grownBy_alloc w2 (.cells Z16 23) none) (.inl (Nat.le_refl _)) rs)
         exact ⟨(Blk.new w2 23 Z16).row rs, HB1.out.1.grown hg3 (by simp), HB1.out.2.1.grown hg3 (by simp), grown_trans HB1.out.2.2 hg3⟩)
       clear hw3 hp7)
    | (refine wpList_load_row rfl 47 _ rfl (w.heap.size + 1) rfl 47 tw (0, 0) _ HB3.out.2.2.1 Tryd.underlying47 rfl (by rw [HD.out.2.1]; exact HI2.out) ?_))
  go_loopw [33] (fun i wr => ∃ k : Nat, k ≤ 2 ∧ i = .int .i64 (k : Int) ∧ w3.grownBy wr none) (fun i _ => 2 - (intOf i).toNat)
  case atStart => exact ⟨0, by omega, rfl, World.grownBy.refl w3 none⟩
  case round =>
    obtain ⟨k, hk, hi, hK⟩ := hrel
    obtain ⟨I, hI⟩ : ∃ I : Int, I = (k : Int) := ⟨_, rfl⟩
    rw [← hI] at hi
    subst hi
    by_cases hlt : k < 2
    · have d1 : decide (I < 2) = true := by simp; omega
      have hI2 : 0 ≤ I ∧ I < 2 := by omega
      obtain ⟨dk, hdk⟩ : ∃ dk, dk = arrV .u8 (if k = 0 then l0 else l1) := ⟨_, rfl⟩
      have kx := fun V => KIX.out V I k dk hI hlt hdk
      have hdd := HN.out.2.1 k hlt
      obtain ⟨d, hd⟩ : ∃ d, d = (if k = 0 then l0 else l1) := ⟨_, rfl⟩
      rw [← hd] at hdk hdd
      have HDK := Lib.hid (show dk = arrV .u8 d ∧ isDig d ∧ dk.size = 16 ∧ (dk.all fun x => x.oneCell') = true from ⟨hdk, hdd, by rw [hdk, arr_size]; exact hdd.1, by rw [hdk]; exact arr_one _ _⟩)
      have HK := Lib.hid (And.intro hI (And.intro hlt hK))
      clear hI hlt hK hk hdk hdd hd
      go_wp2_with (first
        | (refine wpList_store_row rfl 23 _ _ rfl wr.heap.size dk rfl rfl 23 _ (heap_alloc_new wr _) (by rw [HDK.out.2.2.1]; exact info16) (by rw [HD.out.2.2.1, HDK.out.2.2.1]) HDK.out.2.2.2 ?_
           obtain ⟨w4, hw4⟩ : ∃ w4, w4 = (wr.alloc (.cells Z16 23)).setRow wr.heap.size dk := ⟨_, rfl⟩
           obtain ⟨p10, hp10⟩ : ∃ p, p = wr.heap.size := ⟨_, rfl⟩
           rw [← hw4, ← hp10]
           have HB4 := Lib.hid (show Blk w4 p10 23 dk ∧ w3.grownBy w4 none from by
             rw [hw4, hp10]
             have hg4 := grown_row (World.grownBy_alloc wr (.cells Z16 23) none) (.inl (Nat.le_refl _)) dk
             exact ⟨(Blk.new wr 23 Z16).row dk, grown_trans HK.out.2.2 hg4⟩)
           have HS4 := Lib.hid (HB3.out.2.1.grown HB4.out.2 (by simp))
           clear hw4 hp10)
        | (refine wpList_load_row rfl 23 _ rfl w.heap.size rfl 23 ds (0, 0) _ HS4.out Tryd.underlying23 rfl (by rw [HD.out.1]; exact info16) ?_)
        | (refine wpList_load_row rfl 23 _ rfl p10 rfl 23 dk (0, 0) _ HB4.out.1 Tryd.underlying23 rfl (by rw [HDK.out.2.2.1]; exact info16) ?_))
      refine (S2.out w4 (grown_trans HB3.out.2.2.2 HB4.out.2) d HDK.out.2.1 dk HDK.out.1).mono ?_
      rintro e w5 ⟨b, rfl, _, _, hD5, hk5⟩
      have HB5 := Lib.hid (And.intro (HB4.out.1.grown hk5 (by simp)) (And.intro (grown_trans HB4.out.2 hk5) hD5))
      clear hD5 hk5
      go_wp2_with (refine wpList_load_row rfl 23 _ rfl p10 rfl 23 dk (0, 0) _ HB5.out.1 Tryd.underlying23 rfl (by rw [HDK.out.2.2.1]; exact info16) ?_)
      refine (S0.out w5 (grown_trans HB3.out.2.2.2 HB5.out.2.1) d HDK.out.2.1 dk HDK.out.1 b HB5.out.2.2).mono ?_
      rintro e w6 ⟨rfl, hk6⟩
      have HK6 := Lib.hid (grown_trans HB5.out.2.1 hk6)
      clear hk6
      go_wp2_with (first
        | (refine wpList_store_row rfl 23 _ _ rfl w6.heap.size rs rfl rfl 23 _ (heap_alloc_new w6 _) (by rw [HD.out.2.2.2.1]; exact info16) (by rw [HD.out.2.2.1, HD.out.2.2.2.1]) HD.out.2.2.2.2 ?_
           obtain ⟨w7, hw7⟩ : ∃ w7, w7 = (w6.alloc (.cells Z16 23)).setRow w6.heap.size rs := ⟨_, rfl⟩
           obtain ⟨p13, hp13⟩ : ∃ p, p = w6.heap.size := ⟨_, rfl⟩
           rw [← hw7, ← hp13]
           have HB7 := Lib.hid (show Blk w7 p13 23 rs ∧ w3.grownBy w7 none from by
             rw [hw7, hp13]
             exact ⟨(Blk.new w6 23 Z16).row rs, grown_trans HK6.out (grown_row (World.grownBy_alloc w6 (.cells Z16 23) none) (.inl (Nat.le_refl _)) rs)⟩)
           have HP7 := Lib.hid (HB3.out.1.grown HB7.out.2 (by simp))
           clear hw7 hp13)
        | (refine wpList_load_row_w (by rfl) 23 _ rfl p13 rfl 23 rs (0, 0) _ HB7.out.1 Tryd.underlying23 rfl (by rw [HD.out.2.2.2.1]; exact info16) ?_)
        | (refine wpList_load_row_w (by rfl) 23 _ rfl p7 rfl 23 rs (0, 0) _ HP7.out Tryd.underlying23 rfl (by rw [HD.out.2.2.2.1]; exact info16) ?_))
      go_roundw
      case rel =>
        obtain ⟨hI, hlt, _⟩ := HK.out
        exact ⟨k + 1, by omega, by rw [hI]; rfl, HB7.out.2⟩
      case measure => obtain ⟨hI, hlt, _⟩ := HK.out; simp only [intOf]; omega
    · obtain rfl : k = 2 := by omega
      have d1 : decide (I < 2) = false := by simp; omega
      have HK := Lib.hid hK
      have HS8 := Lib.hid (HB3.out.2.1.grown hK (by simp))
      clear hI hlt hK hk
      go_wp2_with (refine wpList_load_row rfl 23 _ rfl w.heap.size rfl 23 ds (0, 0) _ HS8.out Tryd.underlying23 rfl (by rw [HD.out.1]; exact info16) ?_)
      refine (S2.out wr (grown_trans HB3.out.2.2.2 HK.out) zeroC zeroC_dig Z16 HN.out.2.2.2.2.2).mono ?_
      rintro e w8 ⟨b, rfl, _, _, hD8, hk8⟩
      have HB8 := Lib.hid (And.intro (grown_trans (grown_trans HB3.out.2.2.2 HK.out) hk8) (And.intro (HS8.out.grown hk8 (by simp)) hD8))
      clear hD8 hk8
      go_wp2_with fail
      go_loopw [74] (fun i wr => ∃ k : Nat, k ≤ 64 ∧ i = .int .i64 (k : Int) ∧ w8.grownBy wr none) (fun i _ => 64 - (intOf i).toNat)
      case atStart => exact ⟨0, by omega, rfl, World.grownBy.refl w8 none⟩
      case round =>
        obtain ⟨k, hk, hi, hK⟩ := hrel
        obtain ⟨I, hI⟩ : ∃ I : Int, I = (k : Int) := ⟨_, rfl⟩
        rw [← hI] at hi
        subst hi
        by_cases hlt : k < 64
        · have d1 : decide (I < 64) = true := by simp; omega
          have hI64 : 0 ≤ I ∧ I < 68 := by omega
          have hkI : I.toNat = k := by omega
          obtain ⟨cs, hcs⟩ : ∃ cs, cs = arrV .u8 (secC seed lf I) := ⟨_, rfl⟩
          have hq2 := eqDG (secC seed lf I) (secC_dig _ _ _).1 cs hcs
          obtain ⟨cl, hcl⟩ : ∃ cl, cl = cs.toList := ⟨_, rfl⟩
          have hi6 : (Tryd.prog.info? 23).map (·.size) = some cl.length := by rw [hcl, Array.length_toList, hcs, arr_size, (secC_dig _ _ _).1]; exact info16
          have v1 : ∀ z : Gr wr, Sem.run Tryd.prog (Instr.loadAt 23 (.pointer (some ⟨b, I.toNat * 16, none⟩))) z.1 = .ok (.agg cs) z.1 := fun z => by
            have := run_loadAt_mid z.1 b (I.toNat * 16) 23 cl _ (by
              have h0 := range_grown (HB8.out.2.2 k (by rw [sigsS_length]; omega)) (grown_trans hK z.2)
              rw [sigsS, upto_getD (by omega), sig_zero seed lf k hlt, Nat.zero_add, ← hkI] at h0
              rw [hcl, hcs, hI]
              rw [hI] at h0
              exact h0) Tryd.underlying23 rfl hi6
            rwa [hcl, Array.toArray_toList] at this
          have v2 : ∀ z : Gr wr, Sem.run Tryd.prog (Instr.loadAt 23 (.pointer (some ⟨w.heap.size, 0, none⟩))) z.1 = .ok (.agg ds) z.1 := fun z => row_load _ ds HD.out.1 z.1 (HB8.out.2.1.grown (grown_trans hK z.2) (by simp))
          have s3 : ∀ z : Gr wr, Calls Tryd.prog 11 #[.agg ds, .int .i64 lf, .int .i64 I] z.1 fun e w' => e = .returned (.agg cs) ∧ z.1.grownBy w' none := fun z =>
            secret_v z.1 (HN.out.2.2.1.grown (grown_trans HB8.out.1 (grown_trans hK z.2)) (by simp)) seed HN.out.1 lf I ds cs HN.out.2.2.2.2.1 hcs
          have V1 := Lib.hid v1
          have V2 := Lib.hid v2
          have S3 := Lib.hid s3
          have HK := Lib.hid (And.intro hI (And.intro hlt hK))
          clear hI hlt hkI hcs hcl hi6 hK hk v1 v2 s3
          go_wp2_with fail
          refine wp_region_grown (by kernel_rfl) (by kernel_rfl) ?_
          repeat (first
            | (refine wpQuiet_load_row 23 _ ⟨b, I.toNat * 16, none⟩ (.agg cs) (by rfl) rfl rfl (by rintro _ ⟨z, rfl⟩; exact V1.out z) ?_; simp only [Act.put, List.setIfInBounds_toArray, List.set_cons_zero, List.set_cons_succ])
            | (refine wpQuiet_load_row 23 _ ⟨w.heap.size, 0, none⟩ (.agg ds) (by rfl) rfl rfl (by rintro _ ⟨z, rfl⟩; exact V2.out z) ?_; simp only [Act.put, List.setIfInBounds_toArray, List.set_cons_zero, List.set_cons_succ])
            | go_big_quiet_step (first
            | (go_at_call 11; with_reducible exact Calls.grown _ (S3.out _))))
          refine wpQuiet_nil ?_
          rintro w9 ⟨⟨_, k9⟩, rfl⟩
          have HK9 := Lib.hid k9
          clear k9
          go_wp2_with fail
          go_roundw
          case rel =>
            obtain ⟨hI, hlt, hK⟩ := HK.out
            exact ⟨k + 1, by omega, by rw [hI]; rfl, grown_trans hK HK9.out⟩
          case measure => obtain ⟨hI, hlt, _⟩ := HK.out; simp only [intOf]; omega
        · obtain rfl : k = 64 := by omega
          have d1 : decide (I < 64) = false := by simp; omega
          have HK := Lib.hid hK
          clear hI hlt hK hk
          go_wp2_with fail
          go_ret
          exact ⟨rfl, grown_trans HB8.out.1 HK.out⟩
end Go.Proofs.YtjcbfenkpdpbeaaDoor
