/-
  Several texts in one: TrC, TrP, TrG.
-/
import Derived.Test.YtlokjbjpmhfkhaaDoorM11x
import Derived.Laws.MakeOwn
/-
  trees.Climb and quorateref04.Climb.
-/

namespace Go.Proofs.YtlokjbjpmhfkhaaDoor
open Go.RowKit

theorem i64_and1 (n : Int) : bits .and .i64 n 1 = n % 2 := by
  have h3 : (BitVec.ofInt 64 1).toNat = 2 ^ 1 - 1 := by decide
  have key : (BitVec.ofInt 64 n &&& BitVec.ofInt 64 1).toNat = (n % ((2 ^ 64 : Nat) : Int)).toNat % 2 ^ 1 := by
    rw [BitVec.toNat_and, BitVec.toNat_ofInt, h3, Nat.and_two_pow_sub_one_eq_mod]
  show IntKind.i64.wrap ((BitVec.ofInt 64 n &&& BitVec.ofInt 64 1).toNat : Nat) = n % 2
  rw [key, IntKind.wrap_i64]
  omega
/-- Where a way up has come to behind n digests. -/
def climbC (x : List Int) (i : Int) (ps : List (List Int)) : Nat → List Int
  | 0 => x
  | n + 1 => if i / 2 ^ n % 2 = 0 then joinC (climbC x i ps n) (ps.getD n zeroC) else joinC (ps.getD n zeroC) (climbC x i ps n)
theorem climbC_dig {x : List Int} (hx : isDig x) (i : Int) (ps : List (List Int)) : ∀ n, isDig (climbC x i ps n)
  | 0 => hx
  | n + 1 => by rw [climbC]; split <;> exact joinC_dig _ _
theorem leaf_yes (w : World) (lf : Int) (h : 0 ≤ lf ∧ lf < 32) : Calls Tryd.prog 64 #[.int .i64 lf] w fun e w' => e = .returned (.bool true) ∧ w' = w := by
  have d1 : decide (0 ≤ lf) = true := by simp; omega
  have d2 : decide (lf < 32) = true := by simp; omega
  obtain ⟨h1, h2⟩ := h
  go_enter Tryd.func64, Tryd.ntmps64
  go_wp2
  go_ret
  simp
theorem leaf_no (w : World) (lf : Int) (h : lf < 0 ∨ 32 ≤ lf) : Calls Tryd.prog 64 #[.int .i64 lf] w fun e w' => e = .returned (.bool false) ∧ w' = w := by
  by_cases h0 : lf < 0
  · have d1 : decide (0 ≤ lf) = false := by simp; omega
    have h1 : ¬ 0 ≤ lf := by omega
    go_enter Tryd.func64, Tryd.ntmps64
    go_wp2
    go_ret
    simp
  · have d1 : decide (0 ≤ lf) = true := by simp; omega
    have d2 : decide (lf < 32) = false := by simp; omega
    have h1 : 0 ≤ lf := by omega
    have h2 : ¬ lf < 32 := by omega
    go_enter Tryd.func64, Tryd.ntmps64
    go_wp2
    go_ret
    simp

set_option maxRecDepth 100000 in
set_option maxHeartbeats 8000000 in
theorem climb_ok (w : World) (hR : Rounds w) (x : List Int) (hx : isDig x) (lf : Int) (hlf : 0 ≤ lf ∧ lf < 32) (b off c : Nat) (ps : List (List Int)) (hl : ps.length = 5) (hps : ∀ p ∈ ps, isDig p) (hD : DigsAt w b off ps) (ds rs : Array Value) (hds : ds = arrV .u8 x) (hrs : rs = arrV .u8 (climbC x lf ps 5)) :
    Calls Tryd.prog 50 #[.agg ds, .int .i64 lf, .slice (some ⟨b, off, none⟩) 5 c] w fun e w' => e = .returned (.tuple #[.agg rs, .nilIface]) ∧ w.grownBy w' none := by
  obtain ⟨Z16, hZ16⟩ : ∃ Z, Z = arrV .u8 (List.replicate 16 0) := ⟨_, rfl⟩
  have hz16 : ∀ w, Sem.run Tryd.prog (zeroValue 32) w = .ok (.agg Z16) w := fun w => by rw [hZ16]; exact z16run w
  have HD := Lib.hid (show ds = arrV .u8 (climbC x lf ps 0) ∧ ds.size = 16 ∧ Z16.size = 16 ∧ (ds.all fun v => v.oneCell') = true from ⟨by rw [hds, climbC], by rw [hds, arr_size, hx.1], by rw [hZ16]; rfl, by rw [hds]; exact arr_one _ _⟩)
  have HN := Lib.hid (And.intro hx (And.intro hl (And.intro hps (And.intro hD (And.intro hrs hR)))))
  have HLF := Lib.hid hlf
  clear hZ16 hds hx hl hps hD hrs hR hlf
  go_enter Tryd.func50, Tryd.ntmps50
  go_wp2_with fail
  refine (leaf_yes _ lf HLF.out).mono ?_
  rintro e w' ⟨rfl, rfl⟩
  have b0 := (Blk.new w 32 ds).alloc (.cells Z16 32)
  have b1 := Blk.new (w.alloc (.cells ds 32)) 32 Z16
  have b2 := Blk.new ((w.alloc (.cells ds 32)).alloc (.cells Z16 32)) 32 Z16
  simp only [World.size_alloc] at b1 b2
  have HZ2 := Lib.hid (And.intro (b0.alloc (.cells Z16 32)) b2)
  have HF := Lib.hid (show Blk ((((w.alloc (.cells ds 32)).alloc (.cells Z16 32)).alloc (.cells Z16 32)).setRow (w.heap.size + 1 + 1) ds) (w.heap.size + 1) 32 Z16 ∧ Blk ((((w.alloc (.cells ds 32)).alloc (.cells Z16 32)).alloc (.cells Z16 32)).setRow (w.heap.size + 1 + 1) ds) (w.heap.size + 1 + 1) 32 ds ∧ w.grownBy ((((w.alloc (.cells ds 32)).alloc (.cells Z16 32)).alloc (.cells Z16 32)).setRow (w.heap.size + 1 + 1) ds) none from
    ⟨(b1.alloc (.cells Z16 32)).farRow (by omega) ds, b2.row ds, grown_row (grown_trans (grown_trans (World.grownBy_alloc w _ none) (World.grownBy_alloc _ _ none)) (World.grownBy_alloc _ _ none)) (.inl (by omega)) ds⟩)
  have HB0 := Lib.hid b0
  clear b0 b1 b2
  go_wp2_with (first
    | (refine wpList_load_row rfl 32 _ rfl w.heap.size rfl 32 ds (0, 0) _ HB0.out Tryd.underlying32 rfl (by rw [HD.out.2.1]; exact info16) ?_)
    | (refine wpList_store_row rfl 32 _ _ rfl (w.heap.size + 1 + 1) ds rfl rfl 32 _ HZ2.out.2 (by rw [HD.out.2.1]; exact info16) (by rw [HD.out.2.2.1, HD.out.2.1]) HD.out.2.2.2 ?_))
  generalize (((w.alloc (.cells ds 32)).alloc (.cells Z16 32)).alloc (.cells Z16 32)).setRow (w.heap.size + 1 + 1) ds = w3 at *
  go_loopw [24] (fun i wr => ∃ k : Nat, k ≤ 5 ∧ i = .int .i64 (k : Int) ∧ Blk wr (w.heap.size + 1 + 1) 32 (arrV .u8 (climbC x lf ps k)) ∧ Blk wr (w.heap.size + 1) 32 Z16 ∧ w.grownBy wr none) (fun i _ => 5 - (intOf i).toNat)
  case atStart => exact ⟨0, by omega, rfl, by rw [← HD.out.1]; exact HF.out.2.1, HF.out.1, HF.out.2.2⟩
  case round =>
    obtain ⟨k, hk, hi, hB, hZ, hG⟩ := hrel
    obtain ⟨cs, hcs⟩ : ∃ cs, cs = arrV .u8 (climbC x lf ps k) := ⟨_, rfl⟩
    rw [← hcs] at hB
    have hdk := climbC_dig HN.out.1 lf ps k
    have hsz : cs.size = 16 := by rw [hcs, arr_size]; exact hdk.1
    by_cases hlt : k < 5
    · have hpd := getD_dig HN.out.2.2.1 k
      obtain ⟨p, hp⟩ : ∃ p, p = ps.getD k zeroC := ⟨_, rfl⟩
      rw [← hp] at hpd
      obtain ⟨es, hes⟩ : ∃ es, es = arrV .u8 p := ⟨_, rfl⟩
      obtain ⟨el, hel⟩ : ∃ el, el = es.toList := ⟨_, rfl⟩
      have he16 : es.size = 16 := by rw [hes, arr_size]; exact hpd.1
      have hr1 : wr.rangeAt b (off + k * 16) el := by
        rw [hel, hes, hp]
        exact range_grown (HN.out.2.2.2.1 k (by rw [HN.out.2.1]; exact hlt)) hG
      obtain ⟨ns, hns⟩ : ∃ ns, ns = arrV .u8 (climbC x lf ps (k + 1)) := ⟨_, rfl⟩
      have hn16 : ns.size = 16 := by rw [hns, arr_size]; exact (climbC_dig HN.out.1 lf ps (k + 1)).1
      have HNS := Lib.hid (And.intro hn16 (And.intro (show (ns.all fun v => v.oneCell') = true by rw [hns]; exact arr_one _ _) hns))
      have HES := Lib.hid (And.intro he16 (And.intro (show (es.all fun v => v.oneCell') = true by rw [hes]; exact arr_one _ _) (And.intro hr1 (And.intro (show (Tryd.prog.info? 32).map (·.size) = some el.length by rw [hel, Array.length_toList, he16]; exact info16) (show el.toArray = es by rw [hel, Array.toArray_toList])))))
      have HB := Lib.hid (And.intro hB (And.intro hZ (And.intro hG hsz)))
      have hand := i64_and1 (lf / 2 ^ k)
      by_cases hpar : lf / 2 ^ k % 2 = 0
      · have J := Lib.hid (fun (V : World) (hV : w.grownBy V none) => join_is V (HN.out.2.2.2.2.2.grown hV (by simp)) (climbC x lf ps k) p hdk hpd cs es ns hcs hes (by rw [hns, climbC, if_pos hpar, ← hp]))
        rw [hpar] at hand
        have hcases : k = 0 ∨ k = 1 ∨ k = 2 ∨ k = 3 ∨ k = 4 := by omega
        clear hB hZ hG hk hlt hp hes hel he16 hr1 hns hn16 hpar hcs hsz
        rcases hcases with rfl | rfl | rfl | rfl | rfl
        · subst hi
          have hand' : bits .and .i64 (lf) 1 = 0 := by simpa using hand
          clear hand
          go_wp2_with (first
            | (refine wpList_load_mid rfl 32 _ rfl b _ rfl el _ HES.out.2.2.1 Tryd.underlying32 rfl HES.out.2.2.2.1 ?_; rw [HES.out.2.2.2.2])
            | (refine wpList_store_row rfl 32 _ _ rfl wr.heap.size es rfl rfl 32 _ (heap_alloc_new wr _) (by rw [HES.out.1]; exact info16) (by rw [HD.out.2.2.1, HES.out.1]) HES.out.2.1 ?_
               obtain ⟨w4, hw4⟩ : ∃ w4, w4 = (wr.alloc (.cells Z16 32)).setRow wr.heap.size es := ⟨_, rfl⟩
               obtain ⟨p10, hp10⟩ : ∃ p, p = wr.heap.size := ⟨_, rfl⟩
               rw [← hw4, ← hp10]
               have HB4 := Lib.hid (show Blk w4 p10 32 es ∧ Blk w4 (w.heap.size + 1 + 1) 32 cs ∧ Blk w4 (w.heap.size + 1) 32 Z16 ∧ w.grownBy w4 none from by
                 rw [hw4, hp10]
                 have hg4 := grown_row (World.grownBy_alloc wr (.cells Z16 32) none) (.inl (Nat.le_refl _)) es
                 exact ⟨(Blk.new wr 32 Z16).row es, HB.out.1.grown hg4 (by simp), HB.out.2.1.grown hg4 (by simp), grown_trans HB.out.2.2.1 hg4⟩)
               clear hw4 hp10)
            | (refine wpList_load_row rfl 32 _ rfl (w.heap.size + 1 + 1) rfl 32 cs (0, 0) _ HB4.out.2.1 Tryd.underlying32 rfl (by rw [HB.out.2.2.2]; exact info16) ?_)
            | (refine wpList_load_row rfl 32 _ rfl p10 rfl 32 es (0, 0) _ HB4.out.1 Tryd.underlying32 rfl (by rw [HES.out.1]; exact info16) ?_))
          refine (J.out w4 HB4.out.2.2.2).mono ?_
          rintro e w5 ⟨rfl, hk5⟩
          have HB5 := Lib.hid (And.intro (HB4.out.2.1.grown hk5 (by simp)) (And.intro (HB4.out.2.2.1.grown hk5 (by simp)) (grown_trans HB4.out.2.2.2 hk5)))
          clear hk5
          go_wp2_with (refine wpList_store_row rfl 32 _ _ rfl (w.heap.size + 1 + 1) ns rfl rfl 32 _ HB5.out.1 (by rw [HNS.out.1]; exact info16) (by rw [HB.out.2.2.2, HNS.out.1]) HNS.out.2.1 ?_)
          go_roundw
          case rel => exact ⟨1, by omega, rfl, by rw [← HNS.out.2.2]; exact HB5.out.1.row ns, HB5.out.2.1.farRow (by omega) ns, grown_row HB5.out.2.2 (.inl (by omega)) ns⟩
          case measure => simp [intOf]
        · subst hi
          have hand' : bits .and .i64 (lf / 2) 1 = 0 := by simpa using hand
          clear hand
          go_wp2_with (first
            | (refine wpList_load_mid rfl 32 _ rfl b _ rfl el _ HES.out.2.2.1 Tryd.underlying32 rfl HES.out.2.2.2.1 ?_; rw [HES.out.2.2.2.2])
            | (refine wpList_store_row rfl 32 _ _ rfl wr.heap.size es rfl rfl 32 _ (heap_alloc_new wr _) (by rw [HES.out.1]; exact info16) (by rw [HD.out.2.2.1, HES.out.1]) HES.out.2.1 ?_
               obtain ⟨w4, hw4⟩ : ∃ w4, w4 = (wr.alloc (.cells Z16 32)).setRow wr.heap.size es := ⟨_, rfl⟩
               obtain ⟨p10, hp10⟩ : ∃ p, p = wr.heap.size := ⟨_, rfl⟩
               rw [← hw4, ← hp10]
               have HB4 := Lib.hid (show Blk w4 p10 32 es ∧ Blk w4 (w.heap.size + 1 + 1) 32 cs ∧ Blk w4 (w.heap.size + 1) 32 Z16 ∧ w.grownBy w4 none from by
                 rw [hw4, hp10]
                 have hg4 := grown_row (World.grownBy_alloc wr (.cells Z16 32) none) (.inl (Nat.le_refl _)) es
                 exact ⟨(Blk.new wr 32 Z16).row es, HB.out.1.grown hg4 (by simp), HB.out.2.1.grown hg4 (by simp), grown_trans HB.out.2.2.1 hg4⟩)
               clear hw4 hp10)
            | (refine wpList_load_row rfl 32 _ rfl (w.heap.size + 1 + 1) rfl 32 cs (0, 0) _ HB4.out.2.1 Tryd.underlying32 rfl (by rw [HB.out.2.2.2]; exact info16) ?_)
            | (refine wpList_load_row rfl 32 _ rfl p10 rfl 32 es (0, 0) _ HB4.out.1 Tryd.underlying32 rfl (by rw [HES.out.1]; exact info16) ?_))
          refine (J.out w4 HB4.out.2.2.2).mono ?_
          rintro e w5 ⟨rfl, hk5⟩
          have HB5 := Lib.hid (And.intro (HB4.out.2.1.grown hk5 (by simp)) (And.intro (HB4.out.2.2.1.grown hk5 (by simp)) (grown_trans HB4.out.2.2.2 hk5)))
          clear hk5
          go_wp2_with (refine wpList_store_row rfl 32 _ _ rfl (w.heap.size + 1 + 1) ns rfl rfl 32 _ HB5.out.1 (by rw [HNS.out.1]; exact info16) (by rw [HB.out.2.2.2, HNS.out.1]) HNS.out.2.1 ?_)
          go_roundw
          case rel => exact ⟨2, by omega, rfl, by rw [← HNS.out.2.2]; exact HB5.out.1.row ns, HB5.out.2.1.farRow (by omega) ns, grown_row HB5.out.2.2 (.inl (by omega)) ns⟩
          case measure => simp [intOf]
        · subst hi
          have hand' : bits .and .i64 (lf / 4) 1 = 0 := by simpa using hand
          clear hand
          go_wp2_with (first
            | (refine wpList_load_mid rfl 32 _ rfl b _ rfl el _ HES.out.2.2.1 Tryd.underlying32 rfl HES.out.2.2.2.1 ?_; rw [HES.out.2.2.2.2])
            | (refine wpList_store_row rfl 32 _ _ rfl wr.heap.size es rfl rfl 32 _ (heap_alloc_new wr _) (by rw [HES.out.1]; exact info16) (by rw [HD.out.2.2.1, HES.out.1]) HES.out.2.1 ?_
               obtain ⟨w4, hw4⟩ : ∃ w4, w4 = (wr.alloc (.cells Z16 32)).setRow wr.heap.size es := ⟨_, rfl⟩
               obtain ⟨p10, hp10⟩ : ∃ p, p = wr.heap.size := ⟨_, rfl⟩
               rw [← hw4, ← hp10]
               have HB4 := Lib.hid (show Blk w4 p10 32 es ∧ Blk w4 (w.heap.size + 1 + 1) 32 cs ∧ Blk w4 (w.heap.size + 1) 32 Z16 ∧ w.grownBy w4 none from by
                 rw [hw4, hp10]
                 have hg4 := grown_row (World.grownBy_alloc wr (.cells Z16 32) none) (.inl (Nat.le_refl _)) es
                 exact ⟨(Blk.new wr 32 Z16).row es, HB.out.1.grown hg4 (by simp), HB.out.2.1.grown hg4 (by simp), grown_trans HB.out.2.2.1 hg4⟩)
               clear hw4 hp10)
            | (refine wpList_load_row rfl 32 _ rfl (w.heap.size + 1 + 1) rfl 32 cs (0, 0) _ HB4.out.2.1 Tryd.underlying32 rfl (by rw [HB.out.2.2.2]; exact info16) ?_)
            | (refine wpList_load_row rfl 32 _ rfl p10 rfl 32 es (0, 0) _ HB4.out.1 Tryd.underlying32 rfl (by rw [HES.out.1]; exact info16) ?_))
          refine (J.out w4 HB4.out.2.2.2).mono ?_
          rintro e w5 ⟨rfl, hk5⟩
          have HB5 := Lib.hid (And.intro (HB4.out.2.1.grown hk5 (by simp)) (And.intro (HB4.out.2.2.1.grown hk5 (by simp)) (grown_trans HB4.out.2.2.2 hk5)))
          clear hk5
          go_wp2_with (refine wpList_store_row rfl 32 _ _ rfl (w.heap.size + 1 + 1) ns rfl rfl 32 _ HB5.out.1 (by rw [HNS.out.1]; exact info16) (by rw [HB.out.2.2.2, HNS.out.1]) HNS.out.2.1 ?_)
          go_roundw
          case rel => exact ⟨3, by omega, rfl, by rw [← HNS.out.2.2]; exact HB5.out.1.row ns, HB5.out.2.1.farRow (by omega) ns, grown_row HB5.out.2.2 (.inl (by omega)) ns⟩
          case measure => simp [intOf]
        · subst hi
          have hand' : bits .and .i64 (lf / 8) 1 = 0 := by simpa using hand
          clear hand
          go_wp2_with (first
            | (refine wpList_load_mid rfl 32 _ rfl b _ rfl el _ HES.out.2.2.1 Tryd.underlying32 rfl HES.out.2.2.2.1 ?_; rw [HES.out.2.2.2.2])
            | (refine wpList_store_row rfl 32 _ _ rfl wr.heap.size es rfl rfl 32 _ (heap_alloc_new wr _) (by rw [HES.out.1]; exact info16) (by rw [HD.out.2.2.1, HES.out.1]) HES.out.2.1 ?_
               obtain ⟨w4, hw4⟩ : ∃ w4, w4 = (wr.alloc (.cells Z16 32)).setRow wr.heap.size es := ⟨_, rfl⟩
               obtain ⟨p10, hp10⟩ : ∃ p, p = wr.heap.size := ⟨_, rfl⟩
               rw [← hw4, ← hp10]
               have HB4 := Lib.hid (show Blk w4 p10 32 es ∧ Blk w4 (w.heap.size + 1 + 1) 32 cs ∧ Blk w4 (w.heap.size + 1) 32 Z16 ∧ w.grownBy w4 none from by
                 rw [hw4, hp10]
                 have hg4 := grown_row (World.grownBy_alloc wr (.cells Z16 32) none) (.inl (Nat.le_refl _)) es
                 exact ⟨(Blk.new wr 32 Z16).row es, HB.out.1.grown hg4 (by simp), HB.out.2.1.grown hg4 (by simp), grown_trans HB.out.2.2.1 hg4⟩)
               clear hw4 hp10)
            | (refine wpList_load_row rfl 32 _ rfl (w.heap.size + 1 + 1) rfl 32 cs (0, 0) _ HB4.out.2.1 Tryd.underlying32 rfl (by rw [HB.out.2.2.2]; exact info16) ?_)
            | (refine wpList_load_row rfl 32 _ rfl p10 rfl 32 es (0, 0) _ HB4.out.1 Tryd.underlying32 rfl (by rw [HES.out.1]; exact info16) ?_))
          refine (J.out w4 HB4.out.2.2.2).mono ?_
          rintro e w5 ⟨rfl, hk5⟩
          have HB5 := Lib.hid (And.intro (HB4.out.2.1.grown hk5 (by simp)) (And.intro (HB4.out.2.2.1.grown hk5 (by simp)) (grown_trans HB4.out.2.2.2 hk5)))
          clear hk5
          go_wp2_with (refine wpList_store_row rfl 32 _ _ rfl (w.heap.size + 1 + 1) ns rfl rfl 32 _ HB5.out.1 (by rw [HNS.out.1]; exact info16) (by rw [HB.out.2.2.2, HNS.out.1]) HNS.out.2.1 ?_)
          go_roundw
          case rel => exact ⟨4, by omega, rfl, by rw [← HNS.out.2.2]; exact HB5.out.1.row ns, HB5.out.2.1.farRow (by omega) ns, grown_row HB5.out.2.2 (.inl (by omega)) ns⟩
          case measure => simp [intOf]
        · subst hi
          have hand' : bits .and .i64 (lf / 16) 1 = 0 := by simpa using hand
          clear hand
          go_wp2_with (first
            | (refine wpList_load_mid rfl 32 _ rfl b _ rfl el _ HES.out.2.2.1 Tryd.underlying32 rfl HES.out.2.2.2.1 ?_; rw [HES.out.2.2.2.2])
            | (refine wpList_store_row rfl 32 _ _ rfl wr.heap.size es rfl rfl 32 _ (heap_alloc_new wr _) (by rw [HES.out.1]; exact info16) (by rw [HD.out.2.2.1, HES.out.1]) HES.out.2.1 ?_
               obtain ⟨w4, hw4⟩ : ∃ w4, w4 = (wr.alloc (.cells Z16 32)).setRow wr.heap.size es := ⟨_, rfl⟩
               obtain ⟨p10, hp10⟩ : ∃ p, p = wr.heap.size := ⟨_, rfl⟩
               rw [← hw4, ← hp10]
               have HB4 := Lib.hid (show Blk w4 p10 32 es ∧ Blk w4 (w.heap.size + 1 + 1) 32 cs ∧ Blk w4 (w.heap.size + 1) 32 Z16 ∧ w.grownBy w4 none from by
                 rw [hw4, hp10]
                 have hg4 := grown_row (World.grownBy_alloc wr (.cells Z16 32) none) (.inl (Nat.le_refl _)) es
                 exact ⟨(Blk.new wr 32 Z16).row es, HB.out.1.grown hg4 (by simp), HB.out.2.1.grown hg4 (by simp), grown_trans HB.out.2.2.1 hg4⟩)
               clear hw4 hp10)
            | (refine wpList_load_row rfl 32 _ rfl (w.heap.size + 1 + 1) rfl 32 cs (0, 0) _ HB4.out.2.1 Tryd.underlying32 rfl (by rw [HB.out.2.2.2]; exact info16) ?_)
            | (refine wpList_load_row rfl 32 _ rfl p10 rfl 32 es (0, 0) _ HB4.out.1 Tryd.underlying32 rfl (by rw [HES.out.1]; exact info16) ?_))
          refine (J.out w4 HB4.out.2.2.2).mono ?_
          rintro e w5 ⟨rfl, hk5⟩
          have HB5 := Lib.hid (And.intro (HB4.out.2.1.grown hk5 (by simp)) (And.intro (HB4.out.2.2.1.grown hk5 (by simp)) (grown_trans HB4.out.2.2.2 hk5)))
          clear hk5
          go_wp2_with (refine wpList_store_row rfl 32 _ _ rfl (w.heap.size + 1 + 1) ns rfl rfl 32 _ HB5.out.1 (by rw [HNS.out.1]; exact info16) (by rw [HB.out.2.2.2, HNS.out.1]) HNS.out.2.1 ?_)
          go_roundw
          case rel => exact ⟨5, by omega, rfl, by rw [← HNS.out.2.2]; exact HB5.out.1.row ns, HB5.out.2.1.farRow (by omega) ns, grown_row HB5.out.2.2 (.inl (by omega)) ns⟩
          case measure => simp [intOf]
      · have J := Lib.hid (fun (V : World) (hV : w.grownBy V none) => join_is V (HN.out.2.2.2.2.2.grown hV (by simp)) p (climbC x lf ps k) hpd hdk es cs ns hes hcs (by rw [hns, climbC, if_neg hpar, ← hp]))
        rw [show lf / 2 ^ k % 2 = 1 by omega] at hand
        have hcases : k = 0 ∨ k = 1 ∨ k = 2 ∨ k = 3 ∨ k = 4 := by omega
        clear hB hZ hG hk hlt hp hes hel he16 hr1 hns hn16 hpar hcs hsz
        rcases hcases with rfl | rfl | rfl | rfl | rfl
        · subst hi
          have hand' : bits .and .i64 (lf) 1 = 1 := by simpa using hand
          clear hand
          go_wp2_with (first
            | (refine wpList_load_mid rfl 32 _ rfl b _ rfl el _ HES.out.2.2.1 Tryd.underlying32 rfl HES.out.2.2.2.1 ?_; rw [HES.out.2.2.2.2])
            | (refine wpList_store_row rfl 32 _ _ rfl wr.heap.size es rfl rfl 32 _ (heap_alloc_new wr _) (by rw [HES.out.1]; exact info16) (by rw [HD.out.2.2.1, HES.out.1]) HES.out.2.1 ?_
               obtain ⟨w4, hw4⟩ : ∃ w4, w4 = (wr.alloc (.cells Z16 32)).setRow wr.heap.size es := ⟨_, rfl⟩
               obtain ⟨p10, hp10⟩ : ∃ p, p = wr.heap.size := ⟨_, rfl⟩
               rw [← hw4, ← hp10]
               have HB4 := Lib.hid (show Blk w4 p10 32 es ∧ Blk w4 (w.heap.size + 1 + 1) 32 cs ∧ Blk w4 (w.heap.size + 1) 32 Z16 ∧ w.grownBy w4 none from by
                 rw [hw4, hp10]
                 have hg4 := grown_row (World.grownBy_alloc wr (.cells Z16 32) none) (.inl (Nat.le_refl _)) es
                 exact ⟨(Blk.new wr 32 Z16).row es, HB.out.1.grown hg4 (by simp), HB.out.2.1.grown hg4 (by simp), grown_trans HB.out.2.2.1 hg4⟩)
               clear hw4 hp10)
            | (refine wpList_load_row rfl 32 _ rfl (w.heap.size + 1 + 1) rfl 32 cs (0, 0) _ HB4.out.2.1 Tryd.underlying32 rfl (by rw [HB.out.2.2.2]; exact info16) ?_)
            | (refine wpList_load_row rfl 32 _ rfl p10 rfl 32 es (0, 0) _ HB4.out.1 Tryd.underlying32 rfl (by rw [HES.out.1]; exact info16) ?_))
          refine (J.out w4 HB4.out.2.2.2).mono ?_
          rintro e w5 ⟨rfl, hk5⟩
          have HB5 := Lib.hid (And.intro (HB4.out.2.1.grown hk5 (by simp)) (And.intro (HB4.out.2.2.1.grown hk5 (by simp)) (grown_trans HB4.out.2.2.2 hk5)))
          clear hk5
          go_wp2_with (refine wpList_store_row rfl 32 _ _ rfl (w.heap.size + 1 + 1) ns rfl rfl 32 _ HB5.out.1 (by rw [HNS.out.1]; exact info16) (by rw [HB.out.2.2.2, HNS.out.1]) HNS.out.2.1 ?_)
          go_roundw
          case rel => exact ⟨1, by omega, rfl, by rw [← HNS.out.2.2]; exact HB5.out.1.row ns, HB5.out.2.1.farRow (by omega) ns, grown_row HB5.out.2.2 (.inl (by omega)) ns⟩
          case measure => simp [intOf]
        · subst hi
          have hand' : bits .and .i64 (lf / 2) 1 = 1 := by simpa using hand
          clear hand
          go_wp2_with (first
            | (refine wpList_load_mid rfl 32 _ rfl b _ rfl el _ HES.out.2.2.1 Tryd.underlying32 rfl HES.out.2.2.2.1 ?_; rw [HES.out.2.2.2.2])
            | (refine wpList_store_row rfl 32 _ _ rfl wr.heap.size es rfl rfl 32 _ (heap_alloc_new wr _) (by rw [HES.out.1]; exact info16) (by rw [HD.out.2.2.1, HES.out.1]) HES.out.2.1 ?_
               obtain ⟨w4, hw4⟩ : ∃ w4, w4 = (wr.alloc (.cells Z16 32)).setRow wr.heap.size es := ⟨_, rfl⟩
               obtain ⟨p10, hp10⟩ : ∃ p, p = wr.heap.size := ⟨_, rfl⟩
               rw [← hw4, ← hp10]
               have HB4 := Lib.hid (show Blk w4 p10 32 es ∧ Blk w4 (w.heap.size + 1 + 1) 32 cs ∧ Blk w4 (w.heap.size + 1) 32 Z16 ∧ w.grownBy w4 none from by
                 rw [hw4, hp10]
                 have hg4 := grown_row (World.grownBy_alloc wr (.cells Z16 32) none) (.inl (Nat.le_refl _)) es
                 exact ⟨(Blk.new wr 32 Z16).row es, HB.out.1.grown hg4 (by simp), HB.out.2.1.grown hg4 (by simp), grown_trans HB.out.2.2.1 hg4⟩)
               clear hw4 hp10)
            | (refine wpList_load_row rfl 32 _ rfl (w.heap.size + 1 + 1) rfl 32 cs (0, 0) _ HB4.out.2.1 Tryd.underlying32 rfl (by rw [HB.out.2.2.2]; exact info16) ?_)
            | (refine wpList_load_row rfl 32 _ rfl p10 rfl 32 es (0, 0) _ HB4.out.1 Tryd.underlying32 rfl (by rw [HES.out.1]; exact info16) ?_))
          refine (J.out w4 HB4.out.2.2.2).mono ?_
          rintro e w5 ⟨rfl, hk5⟩
          have HB5 := Lib.hid (And.intro (HB4.out.2.1.grown hk5 (by simp)) (And.intro (HB4.out.2.2.1.grown hk5 (by simp)) (grown_trans HB4.out.2.2.2 hk5)))
          clear hk5
          go_wp2_with (refine wpList_store_row rfl 32 _ _ rfl (w.heap.size + 1 + 1) ns rfl rfl 32 _ HB5.out.1 (by rw [HNS.out.1]; exact info16) (by rw [HB.out.2.2.2, HNS.out.1]) HNS.out.2.1 ?_)
          go_roundw
          case rel => exact ⟨2, by omega, rfl, by rw [← HNS.out.2.2]; exact HB5.out.1.row ns, HB5.out.2.1.farRow (by omega) ns, grown_row HB5.out.2.2 (.inl (by omega)) ns⟩
          case measure => simp [intOf]
        · subst hi
          have hand' : bits .and .i64 (lf / 4) 1 = 1 := by simpa using hand
          clear hand
          go_wp2_with (first
            | (refine wpList_load_mid rfl 32 _ rfl b _ rfl el _ HES.out.2.2.1 Tryd.underlying32 rfl HES.out.2.2.2.1 ?_; rw [HES.out.2.2.2.2])
            | (refine wpList_store_row rfl 32 _ _ rfl wr.heap.size es rfl rfl 32 _ (heap_alloc_new wr _) (by rw [HES.out.1]; exact info16) (by rw [HD.out.2.2.1, HES.out.1]) HES.out.2.1 ?_
               obtain ⟨w4, hw4⟩ : ∃ w4, w4 = (wr.alloc (.cells Z16 32)).setRow wr.heap.size es := ⟨_, rfl⟩
               obtain ⟨p10, hp10⟩ : ∃ p, p = wr.heap.size := ⟨_, rfl⟩
               rw [← hw4, ← hp10]
               have HB4 := Lib.hid (show Blk w4 p10 32 es ∧ Blk w4 (w.heap.size + 1 + 1) 32 cs ∧ Blk w4 (w.heap.size + 1) 32 Z16 ∧ w.grownBy w4 none from by
                 rw [hw4, hp10]
                 have hg4 := grown_row (World.grownBy_alloc wr (.cells Z16 32) none) (.inl (Nat.le_refl _)) es
                 exact ⟨(Blk.new wr 32 Z16).row es, HB.out.1.grown hg4 (by simp), HB.out.2.1.grown hg4 (by simp), grown_trans HB.out.2.2.1 hg4⟩)
               clear hw4 hp10)
            | (refine wpList_load_row rfl 32 _ rfl (w.heap.size + 1 + 1) rfl 32 cs (0, 0) _ HB4.out.2.1 Tryd.underlying32 rfl (by rw [HB.out.2.2.2]; exact info16) ?_)
            | (refine wpList_load_row rfl 32 _ rfl p10 rfl 32 es (0, 0) _ HB4.out.1 Tryd.underlying32 rfl (by rw [HES.out.1]; exact info16) ?_))
          refine (J.out w4 HB4.out.2.2.2).mono ?_
          rintro e w5 ⟨rfl, hk5⟩
          have HB5 := Lib.hid (And.intro (HB4.out.2.1.grown hk5 (by simp)) (And.intro (HB4.out.2.2.1.grown hk5 (by simp)) (grown_trans HB4.out.2.2.2 hk5)))
          clear hk5
          go_wp2_with (refine wpList_store_row rfl 32 _ _ rfl (w.heap.size + 1 + 1) ns rfl rfl 32 _ HB5.out.1 (by rw [HNS.out.1]; exact info16) (by rw [HB.out.2.2.2, HNS.out.1]) HNS.out.2.1 ?_)
          go_roundw
          case rel => exact ⟨3, by omega, rfl, by rw [← HNS.out.2.2]; exact HB5.out.1.row ns, HB5.out.2.1.farRow (by omega) ns, grown_row HB5.out.2.2 (.inl (by omega)) ns⟩
          case measure => simp [intOf]
        · subst hi
          have hand' : bits .and .i64 (lf / 8) 1 = 1 := by simpa using hand
          clear hand
          go_wp2_with (first
            | (refine wpList_load_mid rfl 32 _ rfl b _ rfl el _ HES.out.2.2.1 Tryd.underlying32 rfl HES.out.2.2.2.1 ?_; rw [HES.out.2.2.2.2])
            | (refine wpList_store_row rfl 32 _ _ rfl wr.heap.size es rfl rfl 32 _ (heap_alloc_new wr _) (by rw [HES.out.1]; exact info16) (by rw [HD.out.2.2.1, HES.out.1]) HES.out.2.1 ?_
               obtain ⟨w4, hw4⟩ : ∃ w4, w4 = (wr.alloc (.cells Z16 32)).setRow wr.heap.size es := ⟨_, rfl⟩
               obtain ⟨p10, hp10⟩ : ∃ p, p = wr.heap.size := ⟨_, rfl⟩
               rw [← hw4, ← hp10]
               have HB4 := Lib.hid (show Blk w4 p10 32 es ∧ Blk w4 (w.heap.size + 1 + 1) 32 cs ∧ Blk w4 (w.heap.size + 1) 32 Z16 ∧ w.grownBy w4 none from by
                 rw [hw4, hp10]
                 have hg4 := grown_row (World.grownBy_alloc wr (.cells Z16 32) none) (.inl (Nat.le_refl _)) es
                 exact ⟨(Blk.new wr 32 Z16).row es, HB.out.1.grown hg4 (by simp), HB.out.2.1.grown hg4 (by simp), grown_trans HB.out.2.2.1 hg4⟩)
               clear hw4 hp10)
            | (refine wpList_load_row rfl 32 _ rfl (w.heap.size + 1 + 1) rfl 32 cs (0, 0) _ HB4.out.2.1 Tryd.underlying32 rfl (by rw [HB.out.2.2.2]; exact info16) ?_)
            | (refine wpList_load_row rfl 32 _ rfl p10 rfl 32 es (0, 0) _ HB4.out.1 Tryd.underlying32 rfl (by rw [HES.out.1]; exact info16) ?_))
          refine (J.out w4 HB4.out.2.2.2).mono ?_
          rintro e w5 ⟨rfl, hk5⟩
          have HB5 := Lib.hid (And.intro (HB4.out.2.1.grown hk5 (by simp)) (And.intro (HB4.out.2.2.1.grown hk5 (by simp)) (grown_trans HB4.out.2.2.2 hk5)))
          clear hk5
          go_wp2_with (refine wpList_store_row rfl 32 _ _ rfl (w.heap.size + 1 + 1) ns rfl rfl 32 _ HB5.out.1 (by rw [HNS.out.1]; exact info16) (by rw [HB.out.2.2.2, HNS.out.1]) HNS.out.2.1 ?_)
          go_roundw
          case rel => exact ⟨4, by omega, rfl, by rw [← HNS.out.2.2]; exact HB5.out.1.row ns, HB5.out.2.1.farRow (by omega) ns, grown_row HB5.out.2.2 (.inl (by omega)) ns⟩
          case measure => simp [intOf]
        · subst hi
          have hand' : bits .and .i64 (lf / 16) 1 = 1 := by simpa using hand
          clear hand
          go_wp2_with (first
            | (refine wpList_load_mid rfl 32 _ rfl b _ rfl el _ HES.out.2.2.1 Tryd.underlying32 rfl HES.out.2.2.2.1 ?_; rw [HES.out.2.2.2.2])
            | (refine wpList_store_row rfl 32 _ _ rfl wr.heap.size es rfl rfl 32 _ (heap_alloc_new wr _) (by rw [HES.out.1]; exact info16) (by rw [HD.out.2.2.1, HES.out.1]) HES.out.2.1 ?_
               obtain ⟨w4, hw4⟩ : ∃ w4, w4 = (wr.alloc (.cells Z16 32)).setRow wr.heap.size es := ⟨_, rfl⟩
               obtain ⟨p10, hp10⟩ : ∃ p, p = wr.heap.size := ⟨_, rfl⟩
               rw [← hw4, ← hp10]
               have HB4 := Lib.hid (show Blk w4 p10 32 es ∧ Blk w4 (w.heap.size + 1 + 1) 32 cs ∧ Blk w4 (w.heap.size + 1) 32 Z16 ∧ w.grownBy w4 none from by
                 rw [hw4, hp10]
                 have hg4 := grown_row (World.grownBy_alloc wr (.cells Z16 32) none) (.inl (Nat.le_refl _)) es
                 exact ⟨(Blk.new wr 32 Z16).row es, HB.out.1.grown hg4 (by simp), HB.out.2.1.grown hg4 (by simp), grown_trans HB.out.2.2.1 hg4⟩)
               clear hw4 hp10)
            | (refine wpList_load_row rfl 32 _ rfl (w.heap.size + 1 + 1) rfl 32 cs (0, 0) _ HB4.out.2.1 Tryd.underlying32 rfl (by rw [HB.out.2.2.2]; exact info16) ?_)
            | (refine wpList_load_row rfl 32 _ rfl p10 rfl 32 es (0, 0) _ HB4.out.1 Tryd.underlying32 rfl (by rw [HES.out.1]; exact info16) ?_))
          refine (J.out w4 HB4.out.2.2.2).mono ?_
          rintro e w5 ⟨rfl, hk5⟩
          have HB5 := Lib.hid (And.intro (HB4.out.2.1.grown hk5 (by simp)) (And.intro (HB4.out.2.2.1.grown hk5 (by simp)) (grown_trans HB4.out.2.2.2 hk5)))
          clear hk5
          go_wp2_with (refine wpList_store_row rfl 32 _ _ rfl (w.heap.size + 1 + 1) ns rfl rfl 32 _ HB5.out.1 (by rw [HNS.out.1]; exact info16) (by rw [HB.out.2.2.2, HNS.out.1]) HNS.out.2.1 ?_)
          go_roundw
          case rel => exact ⟨5, by omega, rfl, by rw [← HNS.out.2.2]; exact HB5.out.1.row ns, HB5.out.2.1.farRow (by omega) ns, grown_row HB5.out.2.2 (.inl (by omega)) ns⟩
          case measure => simp [intOf]
    · obtain rfl : k = 5 := by omega
      have hr : cs = rs := by rw [hcs, HN.out.2.2.2.2.1]
      subst hr
      have HB := Lib.hid (And.intro hB (And.intro hZ (And.intro hG (And.intro hsz (show (cs.all fun v => v.oneCell') = true by rw [hcs]; exact arr_one _ _)))))
      subst hi
      clear hB hZ hG hk hlt hcs hdk hsz
      go_wp2_with (first
        | (refine wpList_load_row rfl 32 _ rfl (w.heap.size + 1 + 1) rfl 32 cs (0, 0) _ HB.out.1 Tryd.underlying32 rfl (by rw [HB.out.2.2.2.1]; exact info16) ?_)
        | (refine wpList_store_row rfl 32 _ _ rfl (w.heap.size + 1) cs rfl rfl 32 _ HB.out.2.1 (by rw [HB.out.2.2.2.1]; exact info16) (by rw [HD.out.2.2.1, HB.out.2.2.2.1]) HB.out.2.2.2.2 ?_))
      refine bodyPost_ret (results_cell_t rfl _ _ _ ⟨w.heap.size + 1, 0, none⟩ (.agg cs) rfl (run_loadVar_row _ (w.heap.size + 1) 32 32 cs (0, 0) _ (HB.out.2.1.row cs) Tryd.underlying32 rfl (by rw [HB.out.2.2.2.1]; exact info16))) rfl ?_
      exact ⟨rfl, grown_row HB.out.2.2.1 (.inl (by omega)) cs⟩
end Go.Proofs.YtlokjbjpmhfkhaaDoor
/-
  Trees of digests, plain: nodes, levels, ways up.
-/

namespace Go.Proofs.YtlokjbjpmhfkhaaDoor
open Go.RowKit

/-- The j-th digest of the level of that height. -/
def nodeC (ps : List (List Int)) : Nat → Nat → List Int
  | 0, j => ps.getD j zeroC
  | h + 1, j => joinC (nodeC ps h (2 * j)) (nodeC ps h (2 * j + 1))
theorem nodeC_dig {ps : List (List Int)} (hps : ∀ p ∈ ps, isDig p) : ∀ h j, isDig (nodeC ps h j)
  | 0, j => getD_dig hps j
  | h + 1, j => by rw [nodeC]; exact joinC_dig _ _
/-- The first n digests of a level. -/
def levC (ps : List (List Int)) (h n : Nat) : List (List Int) := upto (nodeC ps h) n
theorem levC_length (ps : List (List Int)) (h n : Nat) : (levC ps h n).length = n := upto_length _ _
theorem levC_get {ps : List (List Int)} {h n k : Nat} (hk : k < n) : (levC ps h n).getD k zeroC = nodeC ps h k := by
  simp [levC, upto, List.getD, List.getElem?_map, List.getElem?_range hk]
theorem levC_dig {ps : List (List Int)} (hps : ∀ p ∈ ps, isDig p) (h n : Nat) : ∀ p ∈ levC ps h n, isDig p := by
  intro p hp
  simp only [levC, upto, List.mem_map] at hp
  obtain ⟨k, _, rfl⟩ := hp
  exact nodeC_dig hps h k
theorem levC_zero {ps : List (List Int)} {n : Nat} (hl : ps.length = n) : levC ps 0 n = ps := by
  subst hl
  refine List.ext_getElem (by rw [levC_length]) fun i h1 h2 => ?_
  simp [levC, upto, nodeC, List.getD, h2]
/-- The k-th digest above these. -/
def pairC (ps : List (List Int)) (k : Nat) : List Int := joinC (ps.getD (2 * k) zeroC) (ps.getD (2 * k + 1) zeroC)
theorem pairC_dig (ps : List (List Int)) (k : Nat) : isDig (pairC ps k) := by rw [pairC]; exact joinC_dig _ _
theorem pairC_lev {ps : List (List Int)} {h n k : Nat} (hk : 2 * k + 1 < n) : pairC (levC ps h n) k = nodeC ps (h + 1) k := by
  rw [pairC, levC_get (by omega), levC_get hk, nodeC]
/-- The one beside. -/
def sib (j : Nat) : Nat := if j % 2 = 0 then j + 1 else j - 1
/-- The digest beside the way up from a leaf, at a height. -/
def wayC (ps : List (List Int)) (i h : Nat) : List Int := nodeC ps h (sib (i / 2 ^ h))
theorem wayC_dig {ps : List (List Int)} (hps : ∀ p ∈ ps, isDig p) (i h : Nat) : isDig (wayC ps i h) := nodeC_dig hps _ _
theorem climb_way (ps qs : List (List Int)) (i : Nat) (x : List Int) (hx : x = nodeC ps 0 i) : ∀ n, (∀ h, h < n → qs.getD h zeroC = wayC ps i h) → climbC x (i : Int) qs n = nodeC ps n (i / 2 ^ n)
  | 0, _ => by rw [climbC, hx, Nat.pow_zero, Nat.div_one]
  | n + 1, hq => by
    have ih := climb_way ps qs i x hx n (fun h hh => hq h (by omega))
    have e : i / 2 ^ (n + 1) = i / 2 ^ n / 2 := by rw [Nat.pow_succ, Nat.div_div_eq_div_mul]
    have ec : (i : Int) / 2 ^ n % 2 = ((i / 2 ^ n % 2 : Nat) : Int) := by
      have : (i : Int) / 2 ^ n = ((i / 2 ^ n : Nat) : Int) := by rw [Int.natCast_ediv]; simp
      rw [this]; omega
    rw [climbC, ih, hq n (by omega), wayC, ec, e, nodeC]
    generalize i / 2 ^ n = q
    by_cases hp : q % 2 = 0
    · rw [sib, if_pos (by omega), if_pos hp, show 2 * (q / 2) = q by omega]
    · rw [sib, if_neg (by omega), if_neg hp, show 2 * (q / 2) = q - 1 by omega, show q - 1 + 1 = q by omega]
theorem i64_xor1 : ∀ k : Fin 32, bits .xor .i64 ((k.1 : Nat) : Int) 1 = ((sib k.1 : Nat) : Int) := by decide
/-- Two leaves beside each other. -/
theorem sib_sib (i : Nat) : sib (sib i) = i := by
  unfold sib
  by_cases h : i % 2 = 0
  · rw [if_pos h, if_neg (by omega)]; omega
  · rw [if_neg h, if_pos (by omega)]; omega
theorem sib_half (i : Nat) : sib i / 2 = i / 2 := by unfold sib; split <;> omega
theorem way_beside (ps : List (List Int)) (i h : Nat) : wayC ps (sib i) (h + 1) = wayC ps i (h + 1) := by
  have e : ∀ x : Nat, x / 2 ^ (h + 1) = x / 2 / 2 ^ h := fun x => by rw [Nat.pow_succ, Nat.mul_comm, Nat.div_div_eq_div_mul]
  rw [wayC, wayC, e, e, sib_half]
end Go.Proofs.YtlokjbjpmhfkhaaDoor
/-
  trees.above: the level above digests.
-/
namespace Go.Proofs.YtlokjbjpmhfkhaaDoor
open Go.RowKit

/-- The level above. -/
def aboveC (ps : List (List Int)) : List (List Int) := upto (pairC ps) (ps.length / 2)
theorem aboveC_length (ps : List (List Int)) : (aboveC ps).length = ps.length / 2 := upto_length _ _
theorem upto_get {f : Nat → List Int} {n k : Nat} (h : k < n) : (upto f n).getD k zeroC = f k := by
  simp [upto, List.getD, List.getElem?_map, List.getElem?_range h]
theorem aboveC_lev {ps : List (List Int)} {h n m : Nat} (hn : n = 2 * m) : aboveC (levC ps h n) = levC ps (h + 1) m := by
  rw [aboveC, levC_length, hn, show 2 * m / 2 = m by omega]
  show (List.range m).map _ = (List.range m).map _
  refine List.map_congr_left fun k hk => ?_
  have := List.mem_range.1 hk
  exact pairC_lev (by omega)
theorem made_row (m : Nat) (hm : m ≤ 1000) : ∃ M : Array Value, M.size = m * 16 ∧ ∀ V : World, Sem.run Tryd.prog (Instr.makeSlice 49 (.int .i64 (m : Int)) (.int .i64 (m : Int))) V = .ok (.slice (some ⟨V.heap.size, 0, none⟩) m m) (V.alloc (.cells M 32)) := by
  cases hq : Tryd.prog.info? 32 with
  | none => exact absurd info16 (by rw [hq]; simp)
  | some i =>
    have hs : i.size = 16 := by have := info16; simpa [hq] using this
    have hz : ∃ z, i.zero = some z := by
      have : (Tryd.prog.info? 32).bind (·.zero) = some (.agg (arrV .u8 (List.replicate 16 0))) := by kernel_rfl
      exact ⟨_, by simpa [hq] using this⟩
    have hb : i.bytes = 16 := by
      have : (Tryd.prog.info? 32).map (·.bytes) = some 16 := by kernel_rfl
      simpa [hq] using this
    obtain ⟨z, hz⟩ := hz
    exact ⟨madeCells z.cells (m * 16), size_madeCells _ _, fun V => by
      have := run_make (P := Tryd.prog) V 49 32 i z Tryd.underlying49 hq hz .i64 .i64 m m (by omega) (by omega) (by rw [hb]; omega) (by omega)
      rw [hs, Int.toNat_natCast] at this
      exact this⟩
theorem wpList_make_run {P : Program} {ops : Array Oper} {rest : List Oper} {o : Oper} {a : Act} {w w' : World} {Q : Exit → Act → World → Prop} (hg : o.guard = none) (t : TypeId) (l c : Operand) (ho : o.op = .makeSlice t l c) (vl vc V : Value) (hl : a.eval l = vl) (hc : a.eval c = vc)
    (hr : Sem.run P (Instr.makeSlice t vl vc) w = .ok V w') (h : wpList P ops Q rest (a.put o.dst V) w') : wpList P ops Q (o :: rest) a w :=
  wpList_plain hg fun K hK => by
    unfold Oper.wp execOp
    simp only [ho, hl, hc, Sem.run_bind, hr, Result.andThen_ok]
    exact hK _ _ h

/-- So many digests lie one behind the other. -/
def RowsAt (W : World) (g k : Nat) (f : Nat → List Int) : Prop := ∀ j, j < k → W.rangeAt g (j * 16) (arrV .u8 (f j)).toList
theorem above_done {W : World} {g m N : Nat} {ps : List (List Int)} (hl : ps.length = N) (hN : N = 2 * m) (h : RowsAt W g m (pairC ps)) : DigsAt W g 0 (aboveC ps) := by
  have hm : ps.length / 2 = m := by omega
  intro j hj
  rw [aboveC_length, hm] at hj
  rw [aboveC, hm, upto_get hj, Nat.zero_add]
  exact h j hj
theorem ranges_to {wr w9 : World} {g k : Nat} {f : Nat → List Int} (h : RowsAt wr g k f) (hg : wr.grownBy w9 none) : RowsAt w9 g k f := fun j hj => range_to (h j hj) hg (by simp)
/-- One more digest is stored in a row of them. -/
theorem store_next {w9 : World} {g m k : Nat} {f : Nat → List Int} {js : Array Value} (hT9 : w9.there g 0 (m * 16)) (hr : RowsAt w9 g k f) (hf : ∀ j, (f j).length = 16) (hjs : js = arrV .u8 (f k)) (hk : k < m) (a : Nat) (ha : a = k * 16) :
    (w9.setCells g a js.toList).there g 0 (m * 16) ∧ RowsAt (w9.setCells g a js.toList) g (k + 1) f := by
  have l2 : js.toList.length = 16 := by rw [hjs, Array.length_toList, arr_size]; exact hf k
  refine ⟨World.there_setCells hT9 _ _ _, fun j hj => ?_⟩
  have l1 : (arrV .u8 (f j)).toList.length = 16 := by rw [Array.length_toList, arr_size]; exact hf j
  by_cases hjk : j = k
  · have e1 : (arrV .u8 (f j)).toList = js.toList := by rw [hjk, hjs]
    have e2 : j * 16 = a := by rw [hjk, ha]
    rw [e1, e2]
    exact World.rangeAt_setCells_same w9 g a js.toList (there_sub hT9 (by omega) (by rw [l2, ha]; omega))
  · exact World.rangeAt_setCells_apart (hr j (by omega)) _ _ _ (.inr (by rw [l1, l2]; omega))

end Go.Proofs.YtlokjbjpmhfkhaaDoor
