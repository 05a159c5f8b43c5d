/-
  trees.Climb and quorateref04.Climb.
-/
import Derived.Test.YtobmpdpcjaaklaaDoorTrA
namespace Go.Proofs.YtobmpdpcjaaklaaDoor
open Go.RowKit

theorem i64_and1 (n : Int) : bits .and .i64 n 1 = n % 2 := by
  have h3 : (BitVec.ofInt 64 1).toNat = 2 ^ 1 - 1 := by decide
  have key : (BitVec.ofInt 64 n &&& BitVec.ofInt 64 1).toNat = (n % ((2 ^ 64 : Nat) : Int)).toNat % 2 ^ 1 := by
    rw [BitVec.toNat_and, BitVec.toNat_ofInt, h3, Nat.and_two_pow_sub_one_eq_mod]
  show IntKind.i64.wrap ((BitVec.ofInt 64 n &&& BitVec.ofInt 64 1).toNat : Nat) = n % 2
  rw [key, IntKind.wrap_i64]
  omega
/-- Where a way up has come to behind n digests. -/
def climbC (x : List Int) (i : Int) (ps : List (List Int)) : Nat → List Int
  | 0 => x
  | n + 1 => if i / 2 ^ n % 2 = 0 then joinC (climbC x i ps n) (ps.getD n zeroC) else joinC (ps.getD n zeroC) (climbC x i ps n)
theorem climbC_dig {x : List Int} (hx : isDig x) (i : Int) (ps : List (List Int)) : ∀ n, isDig (climbC x i ps n)
  | 0 => hx
  | n + 1 => by rw [climbC]; split <;> exact joinC_dig _ _
theorem leaf_yes (w : World) (lf : Int) (h : 0 ≤ lf ∧ lf < 32) : Calls Tryd.prog 20 #[.int .i64 lf] w fun e w' => e = .returned (.bool true) ∧ w' = w := by
  have d1 : decide (0 ≤ lf) = true := by simp; omega
  have d2 : decide (lf < 32) = true := by simp; omega
  obtain ⟨h1, h2⟩ := h
  go_enter Tryd.func20, Tryd.ntmps20
  go_wp2
  go_ret
  simp
theorem leaf_no (w : World) (lf : Int) (h : lf < 0 ∨ 32 ≤ lf) : Calls Tryd.prog 20 #[.int .i64 lf] w fun e w' => e = .returned (.bool false) ∧ w' = w := by
  by_cases h0 : lf < 0
  · have d1 : decide (0 ≤ lf) = false := by simp; omega
    have h1 : ¬ 0 ≤ lf := by omega
    go_enter Tryd.func20, Tryd.ntmps20
    go_wp2
    go_ret
    simp
  · have d1 : decide (0 ≤ lf) = true := by simp; omega
    have d2 : decide (lf < 32) = false := by simp; omega
    have h1 : 0 ≤ lf := by omega
    have h2 : ¬ lf < 32 := by omega
    go_enter Tryd.func20, Tryd.ntmps20
    go_wp2
    go_ret
    simp

set_option maxRecDepth 100000 in
set_option maxHeartbeats 8000000 in
theorem climb_ok (w : World) (hR : Rounds w) (x : List Int) (hx : isDig x) (lf : Int) (hlf : 0 ≤ lf ∧ lf < 32) (b off c : Nat) (ps : List (List Int)) (hl : ps.length = 5) (hps : ∀ p ∈ ps, isDig p) (hD : DigsAt w b off ps) (ds rs : Array Value) (hds : ds = arrV .u8 x) (hrs : rs = arrV .u8 (climbC x lf ps 5)) :
    Calls Tryd.prog 13 #[.agg ds, .int .i64 lf, .slice (some ⟨b, off, none⟩) 5 c] w fun e w' => e = .returned (.tuple #[.agg rs, .nilIface]) ∧ w.grownBy w' none := by
  obtain ⟨Z16, hZ16⟩ : ∃ Z, Z = arrV .u8 (List.replicate 16 0) := ⟨_, rfl⟩
  have hz16 : ∀ w, Sem.run Tryd.prog (zeroValue 25) w = .ok (.agg Z16) w := fun w => by rw [hZ16]; exact z16run w
  have HD := Lib.hid (show ds = arrV .u8 (climbC x lf ps 0) ∧ ds.size = 16 ∧ Z16.size = 16 ∧ (ds.all fun v => v.oneCell') = true from ⟨by rw [hds, climbC], by rw [hds, arr_size, hx.1], by rw [hZ16]; rfl, by rw [hds]; exact arr_one _ _⟩)
  have HN := Lib.hid (And.intro hx (And.intro hl (And.intro hps (And.intro hD (And.intro hrs hR)))))
  have HLF := Lib.hid hlf
  clear hZ16 hds hx hl hps hD hrs hR hlf
  go_enter Tryd.func13, Tryd.ntmps13
  go_wp2_with fail
  refine (leaf_yes _ lf HLF.out).mono ?_
  rintro e w' ⟨rfl, rfl⟩
  have b0 := (Blk.new w 25 ds).alloc (.cells Z16 25)
  have b1 := Blk.new (w.alloc (.cells ds 25)) 25 Z16
  have b2 := Blk.new ((w.alloc (.cells ds 25)).alloc (.cells Z16 25)) 25 Z16
  simp only [World.size_alloc] at b1 b2
  have HZ2 := Lib.hid (And.intro (b0.alloc (.cells Z16 25)) b2)
  have HF := Lib.hid (show Blk ((((w.alloc (.cells ds 25)).alloc (.cells Z16 25)).alloc (.cells Z16 25)).setRow (w.heap.size + 1 + 1) ds) (w.heap.size + 1) 25 Z16 ∧ Blk ((((w.alloc (.cells ds 25)).alloc (.cells Z16 25)).alloc (.cells Z16 25)).setRow (w.heap.size + 1 + 1) ds) (w.heap.size + 1 + 1) 25 ds ∧ w.grownBy ((((w.alloc (.cells ds 25)).alloc (.cells Z16 25)).alloc (.cells Z16 25)).setRow (w.heap.size + 1 + 1) ds) none from
    ⟨(b1.alloc (.cells Z16 25)).farRow (by omega) ds, b2.row ds, grown_row (grown_trans (grown_trans (World.grownBy_alloc w _ none) (World.grownBy_alloc _ _ none)) (World.grownBy_alloc _ _ none)) (.inl (by omega)) ds⟩)
  have HB0 := Lib.hid b0
  clear b0 b1 b2
  go_wp2_with (first
    | (refine wpList_load_row rfl 25 _ rfl w.heap.size rfl 25 ds (0, 0) _ HB0.out Tryd.underlying25 rfl (by rw [HD.out.2.1]; exact info16) ?_)
    | (refine wpList_store_row rfl 25 _ _ rfl (w.heap.size + 1 + 1) ds rfl rfl 25 _ HZ2.out.2 (by rw [HD.out.2.1]; exact info16) (by rw [HD.out.2.2.1, HD.out.2.1]) HD.out.2.2.2 ?_))
  generalize (((w.alloc (.cells ds 25)).alloc (.cells Z16 25)).alloc (.cells Z16 25)).setRow (w.heap.size + 1 + 1) ds = w3 at *
  go_loopw [24] (fun i wr => ∃ k : Nat, k ≤ 5 ∧ i = .int .i64 (k : Int) ∧ Blk wr (w.heap.size + 1 + 1) 25 (arrV .u8 (climbC x lf ps k)) ∧ Blk wr (w.heap.size + 1) 25 Z16 ∧ w.grownBy wr none) (fun i _ => 5 - (intOf i).toNat)
  case atStart => exact ⟨0, by omega, rfl, by rw [← HD.out.1]; exact HF.out.2.1, HF.out.1, HF.out.2.2⟩
  case round =>
    obtain ⟨k, hk, hi, hB, hZ, hG⟩ := hrel
    obtain ⟨cs, hcs⟩ : ∃ cs, cs = arrV .u8 (climbC x lf ps k) := ⟨_, rfl⟩
    rw [← hcs] at hB
    have hdk := climbC_dig HN.out.1 lf ps k
    have hsz : cs.size = 16 := by rw [hcs, arr_size]; exact hdk.1
    by_cases hlt : k < 5
    · have hpd := getD_dig HN.out.2.2.1 k
      obtain ⟨p, hp⟩ : ∃ p, p = ps.getD k zeroC := ⟨_, rfl⟩
      rw [← hp] at hpd
      obtain ⟨es, hes⟩ : ∃ es, es = arrV .u8 p := ⟨_, rfl⟩
      obtain ⟨el, hel⟩ : ∃ el, el = es.toList := ⟨_, rfl⟩
      have he16 : es.size = 16 := by rw [hes, arr_size]; exact hpd.1
      have hr1 : wr.rangeAt b (off + k * 16) el := by
        rw [hel, hes, hp]
        exact range_grown (HN.out.2.2.2.1 k (by rw [HN.out.2.1]; exact hlt)) hG
      obtain ⟨ns, hns⟩ : ∃ ns, ns = arrV .u8 (climbC x lf ps (k + 1)) := ⟨_, rfl⟩
      have hn16 : ns.size = 16 := by rw [hns, arr_size]; exact (climbC_dig HN.out.1 lf ps (k + 1)).1
      have HNS := Lib.hid (And.intro hn16 (And.intro (show (ns.all fun v => v.oneCell') = true by rw [hns]; exact arr_one _ _) hns))
      have HES := Lib.hid (And.intro he16 (And.intro (show (es.all fun v => v.oneCell') = true by rw [hes]; exact arr_one _ _) (And.intro hr1 (And.intro (show (Tryd.prog.info? 25).map (·.size) = some el.length by rw [hel, Array.length_toList, he16]; exact info16) (show el.toArray = es by rw [hel, Array.toArray_toList])))))
      have HB := Lib.hid (And.intro hB (And.intro hZ (And.intro hG hsz)))
      have hand := i64_and1 (lf / 2 ^ k)
      by_cases hpar : lf / 2 ^ k % 2 = 0
      · have J := Lib.hid (fun (V : World) (hV : w.grownBy V none) => join_is V (HN.out.2.2.2.2.2.grown hV (by simp)) (climbC x lf ps k) p hdk hpd cs es ns hcs hes (by rw [hns, climbC, if_pos hpar, ← hp]))
        rw [hpar] at hand
        have hcases : k = 0 ∨ k = 1 ∨ k = 2 ∨ k = 3 ∨ k = 4 := by omega
        clear hB hZ hG hk hlt hp hes hel he16 hr1 hns hn16 hpar hcs hsz
        rcases hcases with rfl | rfl | rfl | rfl | rfl
        · subst hi
          have hand' : bits .and .i64 (lf) 1 = 0 := by simpa using hand
          clear hand
          go_wp2_with (first
            | (refine wpList_load_mid rfl 25 _ rfl b _ rfl el _ HES.out.2.2.1 Tryd.underlying25 rfl HES.out.2.2.2.1 ?_; rw [HES.out.2.2.2.2])
            | (refine wpList_store_row rfl 25 _ _ rfl wr.heap.size es rfl rfl 25 _ (heap_alloc_new wr _) (by rw [HES.out.1]; exact info16) (by rw [HD.out.2.2.1, HES.out.1]) HES.out.2.1 ?_
               obtain ⟨w4, hw4⟩ : ∃ w4, w4 = (wr.alloc (.cells Z16 25)).setRow wr.heap.size es := ⟨_, rfl⟩
               obtain ⟨p10, hp10⟩ : ∃ p, p = wr.heap.size := ⟨_, rfl⟩
               rw [← hw4, ← hp10]
               have HB4 := Lib.hid (show Blk w4 p10 25 es ∧ Blk w4 (w.heap.size + 1 + 1) 25 cs ∧ Blk w4 (w.heap.size + 1) 25 Z16 ∧ w.grownBy w4 none from by
                 rw [hw4, hp10]
                 have hg4 := grown_row (World.grownBy_alloc wr (.cells Z16 25) none) (.inl (Nat.le_refl _)) es
                 exact ⟨(Blk.new wr 25 Z16).row es, HB.out.1.grown hg4 (by simp), HB.out.2.1.grown hg4 (by simp), grown_trans HB.out.2.2.1 hg4⟩)
               clear hw4 hp10)
            | (refine wpList_load_row rfl 25 _ rfl (w.heap.size + 1 + 1) rfl 25 cs (0, 0) _ HB4.out.2.1 Tryd.underlying25 rfl (by rw [HB.out.2.2.2]; exact info16) ?_)
            | (refine wpList_load_row rfl 25 _ rfl p10 rfl 25 es (0, 0) _ HB4.out.1 Tryd.underlying25 rfl (by rw [HES.out.1]; exact info16) ?_))
          refine (J.out w4 HB4.out.2.2.2).mono ?_
          rintro e w5 ⟨rfl, hk5⟩
          have HB5 := Lib.hid (And.intro (HB4.out.2.1.grown hk5 (by simp)) (And.intro (HB4.out.2.2.1.grown hk5 (by simp)) (grown_trans HB4.out.2.2.2 hk5)))
          clear hk5
          go_wp2_with (refine wpList_store_row rfl 25 _ _ rfl (w.heap.size + 1 + 1) ns rfl rfl 25 _ HB5.out.1 (by rw [HNS.out.1]; exact info16) (by rw [HB.out.2.2.2, HNS.out.1]) HNS.out.2.1 ?_)
          go_roundw
          case rel => exact ⟨1, by omega, rfl, by rw [← HNS.out.2.2]; exact HB5.out.1.row ns, HB5.out.2.1.farRow (by omega) ns, grown_row HB5.out.2.2 (.inl (by omega)) ns⟩
          case measure => simp [intOf]
        · subst hi
          have hand' : bits .and .i64 (lf / 2) 1 = 0 := by simpa using hand
          clear hand
          go_wp2_with (first
            | (refine wpList_load_mid rfl 25 _ rfl b _ rfl el _ HES.out.2.2.1 Tryd.underlying25 rfl HES.out.2.2.2.1 ?_; rw [HES.out.2.2.2.2])
            | (refine wpList_store_row rfl 25 _ _ rfl wr.heap.size es rfl rfl 25 _ (heap_alloc_new wr _) (by rw [HES.out.1]; exact info16) (by rw [HD.out.2.2.1, HES.out.1]) HES.out.2.1 ?_
               obtain ⟨w4, hw4⟩ : ∃ w4, w4 = (wr.alloc (.cells Z16 25)).setRow wr.heap.size es := ⟨_, rfl⟩
               obtain ⟨p10, hp10⟩ : ∃ p, p = wr.heap.size := ⟨_, rfl⟩
               rw [← hw4, ← hp10]
               have HB4 := Lib.hid (show Blk w4 p10 25 es ∧ Blk w4 (w.heap.size + 1 + 1) 25 cs ∧ Blk w4 (w.heap.size + 1) 25 Z16 ∧ w.grownBy w4 none from by
                 rw [hw4, hp10]
                 have hg4 := grown_row (World.grownBy_alloc wr (.cells Z16 25) none) (.inl (Nat.le_refl _)) es
                 exact ⟨(Blk.new wr 25 Z16).row es, HB.out.1.grown hg4 (by simp), HB.out.2.1.grown hg4 (by simp), grown_trans HB.out.2.2.1 hg4⟩)
               clear hw4 hp10)
            | (refine wpList_load_row rfl 25 _ rfl (w.heap.size + 1 + 1) rfl 25 cs (0, 0) _ HB4.out.2.1 Tryd.underlying25 rfl (by rw [HB.out.2.2.2]; exact info16) ?_)
            | (refine wpList_load_row rfl 25 _ rfl p10 rfl 25 es (0, 0) _ HB4.out.1 Tryd.underlying25 rfl (by rw [HES.out.1]; exact info16) ?_))
          refine (J.out w4 HB4.out.2.2.2).mono ?_
          rintro e w5 ⟨rfl, hk5⟩
          have HB5 := Lib.hid (And.intro (HB4.out.2.1.grown hk5 (by simp)) (And.intro (HB4.out.2.2.1.grown hk5 (by simp)) (grown_trans HB4.out.2.2.2 hk5)))
          clear hk5
          go_wp2_with (refine wpList_store_row rfl 25 _ _ rfl (w.heap.size + 1 + 1) ns rfl rfl 25 _ HB5.out.1 (by rw [HNS.out.1]; exact info16) (by rw [HB.out.2.2.2, HNS.out.1]) HNS.out.2.1 ?_)
          go_roundw
          case rel => exact ⟨2, by omega, rfl, by rw [← HNS.out.2.2]; exact HB5.out.1.row ns, HB5.out.2.1.farRow (by omega) ns, grown_row HB5.out.2.2 (.inl (by omega)) ns⟩
          case measure => simp [intOf]
        · subst hi
          have hand' : bits .and .i64 (lf / 4) 1 = 0 := by simpa using hand
          clear hand
          go_wp2_with (first
            | (refine wpList_load_mid rfl 25 _ rfl b _ rfl el _ HES.out.2.2.1 Tryd.underlying25 rfl HES.out.2.2.2.1 ?_; rw [HES.out.2.2.2.2])
            | (refine wpList_store_row rfl 25 _ _ rfl wr.heap.size es rfl rfl 25 _ (heap_alloc_new wr _) (by rw [HES.out.1]; exact info16) (by rw [HD.out.2.2.1, HES.out.1]) HES.out.2.1 ?_
               obtain ⟨w4, hw4⟩ : ∃ w4, w4 = (wr.alloc (.cells Z16 25)).setRow wr.heap.size es := ⟨_, rfl⟩
               obtain ⟨p10, hp10⟩ : ∃ p, p = wr.heap.size := ⟨_, rfl⟩
               rw [← hw4, ← hp10]
               have HB4 := Lib.hid (show Blk w4 p10 25 es ∧ Blk w4 (w.heap.size + 1 + 1) 25 cs ∧ Blk w4 (w.heap.size + 1) 25 Z16 ∧ w.grownBy w4 none from by
                 rw [hw4, hp10]
                 have hg4 := grown_row (World.grownBy_alloc wr (.cells Z16 25) none) (.inl (Nat.le_refl _)) es
                 exact ⟨(Blk.new wr 25 Z16).row es, HB.out.1.grown hg4 (by simp), HB.out.2.1.grown hg4 (by simp), grown_trans HB.out.2.2.1 hg4⟩)
               clear hw4 hp10)
            | (refine wpList_load_row rfl 25 _ rfl (w.heap.size + 1 + 1) rfl 25 cs (0, 0) _ HB4.out.2.1 Tryd.underlying25 rfl (by rw [HB.out.2.2.2]; exact info16) ?_)
            | (refine wpList_load_row rfl 25 _ rfl p10 rfl 25 es (0, 0) _ HB4.out.1 Tryd.underlying25 rfl (by rw [HES.out.1]; exact info16) ?_))
          refine (J.out w4 HB4.out.2.2.2).mono ?_
          rintro e w5 ⟨rfl, hk5⟩
          have HB5 := Lib.hid (And.intro (HB4.out.2.1.grown hk5 (by simp)) (And.intro (HB4.out.2.2.1.grown hk5 (by simp)) (grown_trans HB4.out.2.2.2 hk5)))
          clear hk5
          go_wp2_with (refine wpList_store_row rfl 25 _ _ rfl (w.heap.size + 1 + 1) ns rfl rfl 25 _ HB5.out.1 (by rw [HNS.out.1]; exact info16) (by rw [HB.out.2.2.2, HNS.out.1]) HNS.out.2.1 ?_)
          go_roundw
          case rel => exact ⟨3, by omega, rfl, by rw [← HNS.out.2.2]; exact HB5.out.1.row ns, HB5.out.2.1.farRow (by omega) ns, grown_row HB5.out.2.2 (.inl (by omega)) ns⟩
          case measure => simp [intOf]
        · subst hi
          have hand' : bits .and .i64 (lf / 8) 1 = 0 := by simpa using hand
          clear hand
          go_wp2_with (first
            | (refine wpList_load_mid rfl 25 _ rfl b _ rfl el _ HES.out.2.2.1 Tryd.underlying25 rfl HES.out.2.2.2.1 ?_; rw [HES.out.2.2.2.2])
            | (refine wpList_store_row rfl 25 _ _ rfl wr.heap.size es rfl rfl 25 _ (heap_alloc_new wr _) (by rw [HES.out.1]; exact info16) (by rw [HD.out.2.2.1, HES.out.1]) HES.out.2.1 ?_
               obtain ⟨w4, hw4⟩ : ∃ w4, w4 = (wr.alloc (.cells Z16 25)).setRow wr.heap.size es := ⟨_, rfl⟩
               obtain ⟨p10, hp10⟩ : ∃ p, p = wr.heap.size := ⟨_, rfl⟩
               rw [← hw4, ← hp10]
               have HB4 := Lib.hid (show Blk w4 p10 25 es ∧ Blk w4 (w.heap.size + 1 + 1) 25 cs ∧ Blk w4 (w.heap.size + 1) 25 Z16 ∧ w.grownBy w4 none from by
                 rw [hw4, hp10]
                 have hg4 := grown_row (World.grownBy_alloc wr (.cells Z16 25) none) (.inl (Nat.le_refl _)) es
                 exact ⟨(Blk.new wr 25 Z16).row es, HB.out.1.grown hg4 (by simp), HB.out.2.1.grown hg4 (by simp), grown_trans HB.out.2.2.1 hg4⟩)
               clear hw4 hp10)
            | (refine wpList_load_row rfl 25 _ rfl (w.heap.size + 1 + 1) rfl 25 cs (0, 0) _ HB4.out.2.1 Tryd.underlying25 rfl (by rw [HB.out.2.2.2]; exact info16) ?_)
            | (refine wpList_load_row rfl 25 _ rfl p10 rfl 25 es (0, 0) _ HB4.out.1 Tryd.underlying25 rfl (by rw [HES.out.1]; exact info16) ?_))
          refine (J.out w4 HB4.out.2.2.2).mono ?_
          rintro e w5 ⟨rfl, hk5⟩
          have HB5 := Lib.hid (And.intro (HB4.out.2.1.grown hk5 (by simp)) (And.intro (HB4.out.2.2.1.grown hk5 (by simp)) (grown_trans HB4.out.2.2.2 hk5)))
          clear hk5
          go_wp2_with (refine wpList_store_row rfl 25 _ _ rfl (w.heap.size + 1 + 1) ns rfl rfl 25 _ HB5.out.1 (by rw [HNS.out.1]; exact info16) (by rw [HB.out.2.2.2, HNS.out.1]) HNS.out.2.1 ?_)
          go_roundw
          case rel => exact ⟨4, by omega, rfl, by rw [← HNS.out.2.2]; exact HB5.out.1.row ns, HB5.out.2.1.farRow (by omega) ns, grown_row HB5.out.2.2 (.inl (by omega)) ns⟩
          case measure => simp [intOf]
        · subst hi
          have hand' : bits .and .i64 (lf / 16) 1 = 0 := by simpa using hand
          clear hand
          go_wp2_with (first
            | (refine wpList_load_mid rfl 25 _ rfl b _ rfl el _ HES.out.2.2.1 Tryd.underlying25 rfl HES.out.2.2.2.1 ?_; rw [HES.out.2.2.2.2])
            | (refine wpList_store_row rfl 25 _ _ rfl wr.heap.size es rfl rfl 25 _ (heap_alloc_new wr _) (by rw [HES.out.1]; exact info16) (by rw [HD.out.2.2.1, HES.out.1]) HES.out.2.1 ?_
               obtain ⟨w4, hw4⟩ : ∃ w4, w4 = (wr.alloc (.cells Z16 25)).setRow wr.heap.size es := ⟨_, rfl⟩
               obtain ⟨p10, hp10⟩ : ∃ p, p = wr.heap.size := ⟨_, rfl⟩
               rw [← hw4, ← hp10]
               have HB4 := Lib.hid (show Blk w4 p10 25 es ∧ Blk w4 (w.heap.size + 1 + 1) 25 cs ∧ Blk w4 (w.heap.size + 1) 25 Z16 ∧ w.grownBy w4 none from by
                 rw [hw4, hp10]
                 have hg4 := grown_row (World.grownBy_alloc wr (.cells Z16 25) none) (.inl (Nat.le_refl _)) es
                 exact ⟨(Blk.new wr 25 Z16).row es, HB.out.1.grown hg4 (by simp), HB.out.2.1.grown hg4 (by simp), grown_trans HB.out.2.2.1 hg4⟩)
               clear hw4 hp10)
            | (refine wpList_load_row rfl 25 _ rfl (w.heap.size + 1 + 1) rfl 25 cs (0, 0) _ HB4.out.2.1 Tryd.underlying25 rfl (by rw [HB.out.2.2.2]; exact info16) ?_)
            | (refine wpList_load_row rfl 25 _ rfl p10 rfl 25 es (0, 0) _ HB4.out.1 Tryd.underlying25 rfl (by rw [HES.out.1]; exact info16) ?_))
          refine (J.out w4 HB4.out.2.2.2).mono ?_
          rintro e w5 ⟨rfl, hk5⟩
          have HB5 := Lib.hid (And.intro (HB4.out.2.1.grown hk5 (by simp)) (And.intro (HB4.out.2.2.1.grown hk5 (by simp)) (grown_trans HB4.out.2.2.2 hk5)))
          clear hk5
          go_wp2_with (refine wpList_store_row rfl 25 _ _ rfl (w.heap.size + 1 + 1) ns rfl rfl 25 _ HB5.out.1 (by rw [HNS.out.1]; exact info16) (by rw [HB.out.2.2.2, HNS.out.1]) HNS.out.2.1 ?_)
          go_roundw
          case rel => exact ⟨5, by omega, rfl, by rw [← HNS.out.2.2]; exact HB5.out.1.row ns, HB5.out.2.1.farRow (by omega) ns, grown_row HB5.out.2.2 (.inl (by omega)) ns⟩
          case measure => simp [intOf]
      · have J := Lib.hid (fun (V : World) (hV : w.grownBy V none) => join_is V (HN.out.2.2.2.2.2.grown hV (by simp)) p (climbC x lf ps k) hpd hdk es cs ns hes hcs (by rw [hns, climbC, if_neg hpar, ← hp]))
        rw [show lf / 2 ^ k % 2 = 1 by omega] at hand
        have hcases : k = 0 ∨ k = 1 ∨ k = 2 ∨ k = 3 ∨ k = 4 := by omega
        clear hB hZ hG hk hlt hp hes hel he16 hr1 hns hn16 hpar hcs hsz
        rcases hcases with rfl | rfl | rfl | rfl | rfl
        · subst hi
          have hand' : bits .and .i64 (lf) 1 = 1 := by simpa using hand
          clear hand
          go_wp2_with (first
            | (refine wpList_load_mid rfl 25 _ rfl b _ rfl el _ HES.out.2.2.1 Tryd.underlying25 rfl HES.out.2.2.2.1 ?_; rw [HES.out.2.2.2.2])
            | (refine wpList_store_row rfl 25 _ _ rfl wr.heap.size es rfl rfl 25 _ (heap_alloc_new wr _) (by rw [HES.out.1]; exact info16) (by rw [HD.out.2.2.1, HES.out.1]) HES.out.2.1 ?_
               obtain ⟨w4, hw4⟩ : ∃ w4, w4 = (wr.alloc (.cells Z16 25)).setRow wr.heap.size es := ⟨_, rfl⟩
               obtain ⟨p10, hp10⟩ : ∃ p, p = wr.heap.size := ⟨_, rfl⟩
               rw [← hw4, ← hp10]
               have HB4 := Lib.hid (show Blk w4 p10 25 es ∧ Blk w4 (w.heap.size + 1 + 1) 25 cs ∧ Blk w4 (w.heap.size + 1) 25 Z16 ∧ w.grownBy w4 none from by
                 rw [hw4, hp10]
                 have hg4 := grown_row (World.grownBy_alloc wr (.cells Z16 25) none) (.inl (Nat.le_refl _)) es
                 exact ⟨(Blk.new wr 25 Z16).row es, HB.out.1.grown hg4 (by simp), HB.out.2.1.grown hg4 (by simp), grown_trans HB.out.2.2.1 hg4⟩)
               clear hw4 hp10)
            | (refine wpList_load_row rfl 25 _ rfl (w.heap.size + 1 + 1) rfl 25 cs (0, 0) _ HB4.out.2.1 Tryd.underlying25 rfl (by rw [HB.out.2.2.2]; exact info16) ?_)
            | (refine wpList_load_row rfl 25 _ rfl p10 rfl 25 es (0, 0) _ HB4.out.1 Tryd.underlying25 rfl (by rw [HES.out.1]; exact info16) ?_))
          refine (J.out w4 HB4.out.2.2.2).mono ?_
          rintro e w5 ⟨rfl, hk5⟩
          have HB5 := Lib.hid (And.intro (HB4.out.2.1.grown hk5 (by simp)) (And.intro (HB4.out.2.2.1.grown hk5 (by simp)) (grown_trans HB4.out.2.2.2 hk5)))
          clear hk5
          go_wp2_with (refine wpList_store_row rfl 25 _ _ rfl (w.heap.size + 1 + 1) ns rfl rfl 25 _ HB5.out.1 (by rw [HNS.out.1]; exact info16) (by rw [HB.out.2.2.2, HNS.out.1]) HNS.out.2.1 ?_)
          go_roundw
          case rel => exact ⟨1, by omega, rfl, by rw [← HNS.out.2.2]; exact HB5.out.1.row ns, HB5.out.2.1.farRow (by omega) ns, grown_row HB5.out.2.2 (.inl (by omega)) ns⟩
          case measure => simp [intOf]
        · subst hi
          have hand' : bits .and .i64 (lf / 2) 1 = 1 := by simpa using hand
          clear hand
          go_wp2_with (first
            | (refine wpList_load_mid rfl 25 _ rfl b _ rfl el _ HES.out.2.2.1 Tryd.underlying25 rfl HES.out.2.2.2.1 ?_; rw [HES.out.2.2.2.2])
            | (refine wpList_store_row rfl 25 _ _ rfl wr.heap.size es rfl rfl 25 _ (heap_alloc_new wr _) (by rw [HES.out.1]; exact info16) (by rw [HD.out.2.2.1, HES.out.1]) HES.out.2.1 ?_
               obtain ⟨w4, hw4⟩ : ∃ w4, w4 = (wr.alloc (.cells Z16 25)).setRow wr.heap.size es := ⟨_, rfl⟩
               obtain ⟨p10, hp10⟩ : ∃ p, p = wr.heap.size := ⟨_, rfl⟩
               rw [← hw4, ← hp10]
               have HB4 := Lib.hid (show Blk w4 p10 25 es ∧ Blk w4 (w.heap.size + 1 + 1) 25 cs ∧ Blk w4 (w.heap.size + 1) 25 Z16 ∧ w.grownBy w4 none from by
                 rw [hw4, hp10]
                 have hg4 := grown_row (World.grownBy_alloc wr (.cells Z16 25) none) (.inl (Nat.le_refl _)) es
                 exact ⟨(Blk.new wr 25 Z16).row es, HB.out.1.grown hg4 (by simp), HB.out.2.1.grown hg4 (by simp), grown_trans HB.out.2.2.1 hg4⟩)
               clear hw4 hp10)
            | (refine wpList_load_row rfl 25 _ rfl (w.heap.size + 1 + 1) rfl 25 cs (0, 0) _ HB4.out.2.1 Tryd.underlying25 rfl (by rw [HB.out.2.2.2]; exact info16) ?_)
            | (refine wpList_load_row rfl 25 _ rfl p10 rfl 25 es (0, 0) _ HB4.out.1 Tryd.underlying25 rfl (by rw [HES.out.1]; exact info16) ?_))
          refine (J.out w4 HB4.out.2.2.2).mono ?_
          rintro e w5 ⟨rfl, hk5⟩
          have HB5 := Lib.hid (And.intro (HB4.out.2.1.grown hk5 (by simp)) (And.intro (HB4.out.2.2.1.grown hk5 (by simp)) (grown_trans HB4.out.2.2.2 hk5)))
          clear hk5
          go_wp2_with (refine wpList_store_row rfl 25 _ _ rfl (w.heap.size + 1 + 1) ns rfl rfl 25 _ HB5.out.1 (by rw [HNS.out.1]; exact info16) (by rw [HB.out.2.2.2, HNS.out.1]) HNS.out.2.1 ?_)
          go_roundw
          case rel => exact ⟨2, by omega, rfl, by rw [← HNS.out.2.2]; exact HB5.out.1.row ns, HB5.out.2.1.farRow (by omega) ns, grown_row HB5.out.2.2 (.inl (by omega)) ns⟩
          case measure => simp [intOf]
        · subst hi
          have hand' : bits .and .i64 (lf / 4) 1 = 1 := by simpa using hand
          clear hand
          go_wp2_with (first
            | (refine wpList_load_mid rfl 25 _ rfl b _ rfl el _ HES.out.2.2.1 Tryd.underlying25 rfl HES.out.2.2.2.1 ?_; rw [HES.out.2.2.2.2])
            | (refine wpList_store_row rfl 25 _ _ rfl wr.heap.size es rfl rfl 25 _ (heap_alloc_new wr _) (by rw [HES.out.1]; exact info16) (by rw [HD.out.2.2.1, HES.out.1]) HES.out.2.1 ?_
               obtain ⟨w4, hw4⟩ : ∃ w4, w4 = (wr.alloc (.cells Z16 25)).setRow wr.heap.size es := ⟨_, rfl⟩
               obtain ⟨p10, hp10⟩ : ∃ p, p = wr.heap.size := ⟨_, rfl⟩
               rw [← hw4, ← hp10]
               have HB4 := Lib.hid (show Blk w4 p10 25 es ∧ Blk w4 (w.heap.size + 1 + 1) 25 cs ∧ Blk w4 (w.heap.size + 1) 25 Z16 ∧ w.grownBy w4 none from by
                 rw [hw4, hp10]
                 have hg4 := grown_row (World.grownBy_alloc wr (.cells Z16 25) none) (.inl (Nat.le_refl _)) es
                 exact ⟨(Blk.new wr 25 Z16).row es, HB.out.1.grown hg4 (by simp), HB.out.2.1.grown hg4 (by simp), grown_trans HB.out.2.2.1 hg4⟩)
               clear hw4 hp10)
            | (refine wpList_load_row rfl 25 _ rfl (w.heap.size + 1 + 1) rfl 25 cs (0, 0) _ HB4.out.2.1 Tryd.underlying25 rfl (by rw [HB.out.2.2.2]; exact info16) ?_)
            | (refine wpList_load_row rfl 25 _ rfl p10 rfl 25 es (0, 0) _ HB4.out.1 Tryd.underlying25 rfl (by rw [HES.out.1]; exact info16) ?_))
          refine (J.out w4 HB4.out.2.2.2).mono ?_
          rintro e w5 ⟨rfl, hk5⟩
          have HB5 := Lib.hid (And.intro (HB4.out.2.1.grown hk5 (by simp)) (And.intro (HB4.out.2.2.1.grown hk5 (by simp)) (grown_trans HB4.out.2.2.2 hk5)))
          clear hk5
          go_wp2_with (refine wpList_store_row rfl 25 _ _ rfl (w.heap.size + 1 + 1) ns rfl rfl 25 _ HB5.out.1 (by rw [HNS.out.1]; exact info16) (by rw [HB.out.2.2.2, HNS.out.1]) HNS.out.2.1 ?_)
          go_roundw
          case rel => exact ⟨3, by omega, rfl, by rw [← HNS.out.2.2]; exact HB5.out.1.row ns, HB5.out.2.1.farRow (by omega) ns, grown_row HB5.out.2.2 (.inl (by omega)) ns⟩
          case measure => simp [intOf]
        · subst hi
          have hand' : bits .and .i64 (lf / 8) 1 = 1 := by simpa using hand
          clear hand
          go_wp2_with (first
            | (refine wpList_load_mid rfl 25 _ rfl b _ rfl el _ HES.out.2.2.1 Tryd.underlying25 rfl HES.out.2.2.2.1 ?_; rw [HES.out.2.2.2.2])
            | (refine wpList_store_row rfl 25 _ _ rfl wr.heap.size es rfl rfl 25 _ (heap_alloc_new wr _) (by rw [HES.out.1]; exact info16) (by rw [HD.out.2.2.1, HES.out.1]) HES.out.2.1 ?_
               obtain ⟨w4, hw4⟩ : ∃ w4, w4 = (wr.alloc (.cells Z16 25)).setRow wr.heap.size es := ⟨_, rfl⟩
               obtain ⟨p10, hp10⟩ : ∃ p, p = wr.heap.size := ⟨_, rfl⟩
               rw [← hw4, ← hp10]
               have HB4 := Lib.hid (show Blk w4 p10 25 es ∧ Blk w4 (w.heap.size + 1 + 1) 25 cs ∧ Blk w4 (w.heap.size + 1) 25 Z16 ∧ w.grownBy w4 none from by
                 rw [hw4, hp10]
                 have hg4 := grown_row (World.grownBy_alloc wr (.cells Z16 25) none) (.inl (Nat.le_refl _)) es
                 exact ⟨(Blk.new wr 25 Z16).row es, HB.out.1.grown hg4 (by simp), HB.out.2.1.grown hg4 (by simp), grown_trans HB.out.2.2.1 hg4⟩)
               clear hw4 hp10)
            | (refine wpList_load_row rfl 25 _ rfl (w.heap.size + 1 + 1) rfl 25 cs (0, 0) _ HB4.out.2.1 Tryd.underlying25 rfl (by rw [HB.out.2.2.2]; exact info16) ?_)
            | (refine wpList_load_row rfl 25 _ rfl p10 rfl 25 es (0, 0) _ HB4.out.1 Tryd.underlying25 rfl (by rw [HES.out.1]; exact info16) ?_))
          refine (J.out w4 HB4.out.2.2.2).mono ?_
          rintro e w5 ⟨rfl, hk5⟩
          have HB5 := Lib.hid (And.intro (HB4.out.2.1.grown hk5 (by simp)) (And.intro (HB4.out.2.2.1.grown hk5 (by simp)) (grown_trans HB4.out.2.2.2 hk5)))
          clear hk5
          go_wp2_with (refine wpList_store_row rfl 25 _ _ rfl (w.heap.size + 1 + 1) ns rfl rfl 25 _ HB5.out.1 (by rw [HNS.out.1]; exact info16) (by rw [HB.out.2.2.2, HNS.out.1]) HNS.out.2.1 ?_)
          go_roundw
          case rel => exact ⟨4, by omega, rfl, by rw [← HNS.out.2.2]; exact HB5.out.1.row ns, HB5.out.2.1.farRow (by omega) ns, grown_row HB5.out.2.2 (.inl (by omega)) ns⟩
          case measure => simp [intOf]
        · subst hi
          have hand' : bits .and .i64 (lf / 16) 1 = 1 := by simpa using hand
          clear hand
          go_wp2_with (first
            | (refine wpList_load_mid rfl 25 _ rfl b _ rfl el _ HES.out.2.2.1 Tryd.underlying25 rfl HES.out.2.2.2.1 ?_; rw [HES.out.2.2.2.2])
            | (refine wpList_store_row rfl 25 _ _ rfl wr.heap.size es rfl rfl 25 _ (heap_alloc_new wr _) (by rw [HES.out.1]; exact info16) (by rw [HD.out.2.2.1, HES.out.1]) HES.out.2.1 ?_
               obtain ⟨w4, hw4⟩ : ∃ w4, w4 = (wr.alloc (.cells Z16 25)).setRow wr.heap.size es := ⟨_, rfl⟩
               obtain ⟨p10, hp10⟩ : ∃ p, p = wr.heap.size := ⟨_, rfl⟩
               rw [← hw4, ← hp10]
               have HB4 := Lib.hid (show Blk w4 p10 25 es ∧ Blk w4 (w.heap.size + 1 + 1) 25 cs ∧ Blk w4 (w.heap.size + 1) 25 Z16 ∧ w.grownBy w4 none from by
                 rw [hw4, hp10]
                 have hg4 := grown_row (World.grownBy_alloc wr (.cells Z16 25) none) (.inl (Nat.le_refl _)) es
                 exact ⟨(Blk.new wr 25 Z16).row es, HB.out.1.grown hg4 (by simp), HB.out.2.1.grown hg4 (by simp), grown_trans HB.out.2.2.1 hg4⟩)
               clear hw4 hp10)
            | (refine wpList_load_row rfl 25 _ rfl (w.heap.size + 1 + 1) rfl 25 cs (0, 0) _ HB4.out.2.1 Tryd.underlying25 rfl (by rw [HB.out.2.2.2]; exact info16) ?_)
            | (refine wpList_load_row rfl 25 _ rfl p10 rfl 25 es (0, 0) _ HB4.out.1 Tryd.underlying25 rfl (by rw [HES.out.1]; exact info16) ?_))
          refine (J.out w4 HB4.out.2.2.2).mono ?_
          rintro e w5 ⟨rfl, hk5⟩
          have HB5 := Lib.hid (And.intro (HB4.out.2.1.grown hk5 (by simp)) (And.intro (HB4.out.2.2.1.grown hk5 (by simp)) (grown_trans HB4.out.2.2.2 hk5)))
          clear hk5
          go_wp2_with (refine wpList_store_row rfl 25 _ _ rfl (w.heap.size + 1 + 1) ns rfl rfl 25 _ HB5.out.1 (by rw [HNS.out.1]; exact info16) (by rw [HB.out.2.2.2, HNS.out.1]) HNS.out.2.1 ?_)
          go_roundw
          case rel => exact ⟨5, by omega, rfl, by rw [← HNS.out.2.2]; exact HB5.out.1.row ns, HB5.out.2.1.farRow (by omega) ns, grown_row HB5.out.2.2 (.inl (by omega)) ns⟩
          case measure => simp [intOf]
    · obtain rfl : k = 5 := by omega
      have hr : cs = rs := by rw [hcs, HN.out.2.2.2.2.1]
      subst hr
      have HB := Lib.hid (And.intro hB (And.intro hZ (And.intro hG (And.intro hsz (show (cs.all fun v => v.oneCell') = true by rw [hcs]; exact arr_one _ _)))))
      subst hi
      clear hB hZ hG hk hlt hcs hdk hsz
      go_wp2_with (first
        | (refine wpList_load_row rfl 25 _ rfl (w.heap.size + 1 + 1) rfl 25 cs (0, 0) _ HB.out.1 Tryd.underlying25 rfl (by rw [HB.out.2.2.2.1]; exact info16) ?_)
        | (refine wpList_store_row rfl 25 _ _ rfl (w.heap.size + 1) cs rfl rfl 25 _ HB.out.2.1 (by rw [HB.out.2.2.2.1]; exact info16) (by rw [HD.out.2.2.1, HB.out.2.2.2.1]) HB.out.2.2.2.2 ?_))
      refine bodyPost_ret (results_cell_t rfl _ _ _ ⟨w.heap.size + 1, 0, none⟩ (.agg cs) rfl (run_loadVar_row _ (w.heap.size + 1) 25 25 cs (0, 0) _ (HB.out.2.1.row cs) Tryd.underlying25 rfl (by rw [HB.out.2.2.2.1]; exact info16))) rfl ?_
      exact ⟨rfl, grown_row HB.out.2.2.1 (.inl (by omega)) cs⟩
end Go.Proofs.YtobmpdpcjaaklaaDoor
