/-
  TreesAll, walked.
-/
import Derived.Test.YtobmpdpcjaaklaaDoorTrWays
namespace Go.Proofs.YtobmpdpcjaaklaaDoor
open Go.RowKit

theorem all_long (w : World) (hR : Rounds w) (A : Option Addr) (n c : Nat) (hn : n ≠ 32) : Calls Tryd.prog 6 #[.slice A n c] w fun e w' => e = .returned (.bool true) ∧ w.grownBy w' none := by
  have d1 : ¬ ((n : Int) = 32) := by omega
  have HR := Lib.hid hR
  clear hR
  go_enter Tryd.func6, Tryd.ntmps6
  go_wp2_with fail
  refine (tree_alive _ HR.out).mono ?_
  rintro e w1 ⟨rfl, hk1⟩
  have HK := Lib.hid hk1
  clear hk1
  go_wp2_with fail
  go_ret
  exact ⟨rfl, HK.out⟩
/-- What 'last' holds of a half. -/
def lastV (ps : List (List Int)) (h : Nat) : Array Value := arrV .u8 (nodeC ps 4 (sib h))
def LastAt (W : World) (lb : Nat) (ps : List (List Int)) (k : Nat) : Prop := W.there lb 0 32 ∧ ∀ h, h < 2 → h * 16 < k → W.rangeAt lb (h * 16) (lastV ps h).toList
theorem LastAt.to {W W' : World} {lb k : Nat} {ps : List (List Int)} {row : Option Nat} (h : LastAt W lb ps k) (hg : W.grownBy W' row) (hr : some lb ≠ row) : LastAt W' lb ps k :=
  ⟨there_to h.1 hg hr, fun j h1 h2 => range_to (h.2 j h1 h2) hg hr⟩
theorem lastV_size {ps : List (List Int)} (hps : ∀ p ∈ ps, isDig p) (h : Nat) : (lastV ps h).size = 16 := by rw [lastV, arr_size]; exact (nodeC_dig hps _ _).1
theorem wayV_last (ps : List (List Int)) (k : Nat) : wayV ps k 4 = lastV ps (k / 16) := by rw [wayV, wayC, lastV]
theorem LastAt.same {W : World} {lb k : Nat} {ps : List (List Int)} (h : LastAt W lb ps k) (hk : k % 16 ≠ 0) : LastAt W lb ps (k + 1) :=
  ⟨h.1, fun j h1 h2 => h.2 j h1 (by omega)⟩
theorem LastAt.next {W : World} {lb k o : Nat} {ps : List (List Int)} {cs : Array Value} (hps : ∀ p ∈ ps, isDig p) (h : LastAt W lb ps k) (hk : k < 32) (hk0 : k % 16 = 0) (hc : cs = lastV ps (k / 16)) (ho : o = k / 16 * 16) : LastAt (W.setCells lb o cs.toList) lb ps (k + 1) := by
  have l2 : cs.toList.length = 16 := by rw [Array.length_toList, hc]; exact lastV_size hps _
  refine ⟨World.there_setCells h.1 _ _ _, fun j h1 h2 => ?_⟩
  by_cases e : j = k / 16
  · have e1 : (lastV ps j).toList = cs.toList := by rw [hc, e]
    have e2 : j * 16 = o := by rw [ho, e]
    rw [e1, e2]
    exact World.rangeAt_setCells_same W lb o cs.toList (there_sub h.1 (by omega) (by rw [l2, ho]; omega))
  · have l1 : (lastV ps j).toList.length = 16 := by rw [Array.length_toList]; exact lastV_size hps _
    exact World.rangeAt_setCells_apart (h.2 j h1 (by omega)) _ _ _ (.inr (by rw [l1, l2]; omega))
theorem LastAt.get {W : World} {lb k : Nat} {ps : List (List Int)} (h : LastAt W lb ps (k + 1)) (hk : k < 32) : W.rangeAt lb (k / 16 * 16) (lastV ps (k / 16)).toList := h.2 _ (by omega) (by omega)
theorem wayL_get (ps : List (List Int)) (i : Nat) : ∀ h, h < 5 → (upto (wayC ps i) 5).getD h zeroC = wayC ps i h := fun _ h => upto_get h
theorem wayL_digs {w : World} {g : Nat} {ps : List (List Int)} {i : Nat} (h : ∀ k, k < 5 → w.rangeAt g (0 + k * 16) (wayV ps i k).toList) : DigsAt w g 0 (upto (wayC ps i) 5) := fun j hj => by
  rw [upto_length] at hj
  rw [upto_get hj]
  exact h j hj
/-- The root that a leaf's own way up leads to. -/
theorem climb_root {ps : List (List Int)} {i : Nat} (hi : i < 32) : climbC (ps.getD i zeroC) (i : Int) (upto (wayC ps i) 5) 5 = nodeC ps 5 0 := by
  rw [climb_way ps _ i _ (by rw [nodeC]) 5 (wayL_get ps i), show i / 2 ^ 5 = 0 by omega]
theorem climb_own (w : World) (hR : Rounds w) (ps : List (List Int)) (hps : ∀ p ∈ ps, isDig p) (i : Nat) (hi : i < 32) (iv : Int) (hiv : iv = (i : Int)) (g cap : Nat) (h : ∀ k, k < 5 → w.rangeAt g (0 + k * 16) (wayV ps i k).toList) (ds rs : Array Value) (hds : ds = arrV .u8 (ps.getD i zeroC)) (hrs : rs = arrV .u8 (nodeC ps 5 0)) :
    Calls Tryd.prog 13 #[.agg ds, .int .i64 iv, .slice (some ⟨g, 0, none⟩) 5 cap] w fun e w' => e = .returned (.tuple #[.agg rs, .nilIface]) ∧ w.grownBy w' none := by
  subst hiv
  exact climb_ok w hR _ (getD_dig hps i) (i : Int) (by omega) g 0 cap _ (upto_length _ _) (way_dig hps (fun k => k) i 5) (wayL_digs h) ds rs hds (by rw [hrs, climb_root hi])
/-- The last row: 'last' and the root. -/
def RootAt (W : World) (rb lb : Nat) (rs : Array Value) (ps : List (List Int)) (k : Nat) : Prop := Blk W rb 25 rs ∧ LastAt W lb ps k

set_option maxRecDepth 100000 in
set_option maxHeartbeats 8000000 in
theorem all_main (w : World) (hR : Rounds w) (b off c : Nat) (ps : List (List Int)) (hl : ps.length = 32) (hps : ∀ p ∈ ps, isDig p) (hD : DigsAt w b off ps) :
    Calls Tryd.prog 6 #[.slice (some ⟨b, off, none⟩) 32 c] w fun e w' => e = .returned (.bool true) ∧ w.grownBy w' none := by
  obtain ⟨Z16, hZ16⟩ : ∃ Z, Z = arrV .u8 (List.replicate 16 0) := ⟨_, rfl⟩
  have hz16 : ∀ w, Sem.run Tryd.prog (zeroValue 25) w = .ok (.agg Z16) w := fun w => by rw [hZ16]; exact z16run w
  obtain ⟨Z32, hZ32⟩ : ∃ Z, Z = arrV .u8 (List.replicate 32 0) := ⟨_, rfl⟩
  have hz32 : ∀ w, Sem.run Tryd.prog (zeroValue 41) w = .ok (.agg Z32) w := fun w => by rw [hZ32]; exact zrun w (by kernel_rfl)
  have info32 : (Tryd.prog.info? 41).map (·.size) = some 32 := by kernel_rfl
  obtain ⟨rs, hrs⟩ : ∃ rs, rs = arrV .u8 (nodeC ps 5 0) := ⟨_, rfl⟩
  have hrd := nodeC_dig hps 5 0
  have hqr := eqDG (nodeC ps 5 0) hrd.1 rs hrs
  have HZ := Lib.hid (show Z16.size = 16 ∧ Z32.size = 32 ∧ (Z32.all fun v => v.oneCell') = true ∧ (Tryd.prog.info? 41).map (·.size) = some 32 from ⟨by rw [hZ16]; rfl, by rw [hZ32]; rfl, by rw [hZ32]; exact arr_one _ _, info32⟩)
  have HRS := Lib.hid (show rs.size = 16 ∧ (rs.all fun v => v.oneCell') = true ∧ rs = arrV .u8 (nodeC ps 5 0) from ⟨by rw [hrs, arr_size]; exact hrd.1, by rw [hrs]; exact arr_one _ _, hrs⟩)
  have HN := Lib.hid (And.intro hR (And.intro hl (And.intro hps hD)))
  clear hZ16 hZ32 info32 hrs hrd hR hl hps hD
  go_enter Tryd.func6, Tryd.ntmps6
  go_wp2_with fail
  refine (tree_alive _ HN.out.1).mono ?_
  rintro e w1 ⟨rfl, hk1⟩
  have HK1 := Lib.hid hk1
  clear hk1
  go_wp2_with fail
  refine (root_ok w1 (HN.out.1.grown HK1.out (by simp)) b off c ps HN.out.2.1 HN.out.2.2.1 (HN.out.2.2.2.grown HK1.out) rs HRS.out.2.2).mono ?_
  rintro e w2 ⟨rfl, hk2⟩
  have HK2 := Lib.hid (grown_trans HK1.out hk2)
  clear hk2
  have HS2 := Lib.hid (show ∀ V t o, Blk (V.alloc (.cells o t)) V.heap.size t o from fun V t o => Blk.new V t o)
  go_wp2_with (first
    | (refine wpList_store_row rfl 25 _ _ rfl w2.heap.size rs rfl rfl 25 _ (heap_alloc_new w2 _) (by rw [HRS.out.1]; exact info16) (by rw [HZ.out.1, HRS.out.1]) HRS.out.2.1 ?_
       obtain ⟨w3, hw3⟩ : ∃ w3, w3 = (w2.alloc (.cells Z16 25)).setRow w2.heap.size rs := ⟨_, rfl⟩
       rw [← hw3]
       have HB3 := Lib.hid (show Blk w3 w2.heap.size 25 rs ∧ w.grownBy w3 none ∧ w2.heap.size < w3.heap.size from by
         rw [hw3]
         have b3 := (Blk.new w2 25 Z16).row rs
         exact ⟨b3, grown_row (grown_trans HK2.out (World.grownBy_alloc w2 _ none)) (.inl HK2.out.size) rs, b3.lt⟩)
       clear hw3)
    | (refine wpList_store_row rfl 41 _ _ rfl w3.heap.size Z32 rfl rfl 41 _ (heap_alloc_new w3 _) (by rw [HZ.out.2.1]; exact HZ.out.2.2.2) rfl HZ.out.2.2.1 ?_))
  obtain ⟨w4, hw4⟩ : ∃ w4, w4 = (w3.alloc (.cells Z32 41)).setRow w3.heap.size Z32 := ⟨_, rfl⟩
  rw [← hw4]
  obtain ⟨rb, hrb⟩ : ∃ rb, rb = w2.heap.size := ⟨_, rfl⟩
  obtain ⟨lb, hlb⟩ : ∃ lb, lb = w3.heap.size := ⟨_, rfl⟩
  have H4 := Lib.hid (show RootAt w4 rb lb rs ps 0 ∧ w.grownBy w4 none ∧ rb ≠ lb ∧ w.heap.size ≤ rb ∧ w.heap.size ≤ lb from by
    rw [hw4, hrb, hlb]
    have b4 := (Blk.new w3 41 Z32).row Z32
    have hs := HB3.out.2.2
    have hs2 := HK2.out.size
    exact ⟨⟨((HB3.out.1).alloc _).farRow (by omega) Z32, there_blk b4 (by rw [HZ.out.2.1]; exact Nat.le_refl _), fun h _ h2 => absurd h2 (by omega)⟩, grown_row (grown_trans HB3.out.2.1 (World.grownBy_alloc w3 _ none)) (.inl HB3.out.2.1.size) Z32, by omega, hs2, HB3.out.2.1.size⟩)
  rw [← hrb, ← hlb]
  clear hw4 hrb hlb
  go_loopw [27] (fun i wr => ∃ k : Nat, k ≤ 32 ∧ i = .int .i64 (k : Int) ∧ RootAt wr rb lb rs ps k ∧ w.grownBy wr none) (fun i _ => 32 - (intOf i).toNat)
  case atStart => exact ⟨0, by omega, rfl, H4.out.1, H4.out.2.1⟩
  case round =>
    obtain ⟨k, hk, hi, hRA, hG⟩ := hrel
    obtain ⟨I, hI⟩ : ∃ I : Int, I = (k : Int) := ⟨_, rfl⟩
    rw [← hI] at hi
    subst hi
    by_cases hlt : k < 32
    · have d1 : decide (I < 32) = true := by simp; omega
      have hb0 : 0 ≤ I ∧ I < 32 := by omega
      obtain ⟨J, hJ⟩ : ∃ J : Int, J = I / 16 := ⟨_, rfl⟩
      obtain ⟨R, hRm⟩ : ∃ R : Int, R = I % 16 := ⟨_, rfl⟩
      have hJ1 : I / 16 = J := hJ.symm
      have hJ2 : I.tdiv 16 = J := by rw [hJ, Int.tdiv_eq_ediv_of_nonneg (by omega)]
      have hR1 : I % 16 = R := hRm.symm
      have hR2 : I.tmod 16 = R := by rw [hRm, Int.tmod_eq_emod_of_nonneg (by omega)]
      have hJn : J.toNat = k / 16 := by omega
      have hJb : 0 ≤ J ∧ J < 2 := by omega
      obtain ⟨es, hes⟩ : ∃ es, es = arrV .u8 (ps.getD k zeroC) := ⟨_, rfl⟩
      obtain ⟨el, hel⟩ : ∃ el, el = es.toList := ⟨_, rfl⟩
      have he16 : es.size = 16 := by rw [hes, arr_size]; exact (getD_dig HN.out.2.2.1 k).1
      have hr1 : wr.rangeAt b (off + I.toNat * 16) el := by
        rw [hel, hes, hI, Int.toNat_natCast]
        exact range_grown (HN.out.2.2.2 k (by rw [HN.out.2.1]; exact hlt)) hG
      obtain ⟨ls, hls⟩ : ∃ ls, ls = lastV ps (k / 16) := ⟨_, rfl⟩
      have hl16 : ls.size = 16 := by rw [hls]; exact lastV_size HN.out.2.2.1 _
      have hql := eqDG (nodeC ps 4 (sib (k / 16))) (nodeC_dig HN.out.2.2.1 _ _).1 ls (by rw [hls, lastV])
      have HES := Lib.hid (And.intro he16 (And.intro (show (es.all fun v => v.oneCell') = true by rw [hes]; exact arr_one _ _) (And.intro hr1 (And.intro (show (Tryd.prog.info? 25).map (·.size) = some el.length by rw [hel, Array.length_toList, he16]; exact info16) (And.intro (show el.toArray = es by rw [hel, Array.toArray_toList]) hes)))))
      have HLS := Lib.hid (And.intro hl16 (And.intro (show (ls.all fun v => v.oneCell') = true by rw [hls, lastV]; exact arr_one _ _) hls))
      have HK := Lib.hid (And.intro hI (And.intro hlt (And.intro hRA (And.intro hG (And.intro hJn (And.intro hRm hJ))))))
      clear hI hlt hRA hG hes hel he16 hr1 hls hl16 hk hJn
      by_cases hz : R = 0
      · have dz : (R == 0) = true := by simp [hz]
        have hkz : k % 16 = 0 := by have h1 := HK.out.1; omega
        have HKZ := Lib.hid hkz
        clear hz hkz hJ hRm
--Z0
        go_wp2_with (first
          | (refine wpList_load_mid rfl 25 _ rfl b _ rfl el _ HES.out.2.2.1 Tryd.underlying25 rfl HES.out.2.2.2.1 ?_; rw [HES.out.2.2.2.2.1])
          | (refine wpList_store_row rfl 25 _ _ rfl wr.heap.size es rfl rfl 25 _ (heap_alloc_new wr _) (by rw [HES.out.1]; exact info16) (by rw [HZ.out.1, HES.out.1]) HES.out.2.1 ?_))
        obtain ⟨w5, hw5⟩ : ∃ w5, w5 = (wr.alloc (.cells Z16 25)).setRow wr.heap.size es := ⟨_, rfl⟩
        obtain ⟨p7, hp7⟩ : ∃ p, p = wr.heap.size := ⟨_, rfl⟩
        rw [← hw5, ← hp7]
        have H5 := Lib.hid (show Blk w5 p7 25 es ∧ wr.grownBy w5 none ∧ w.grownBy w5 none from by
          rw [hw5, hp7]
          have g5 := grown_row (World.grownBy_alloc wr (.cells Z16 25) none) (.inl (Nat.le_refl _)) es
          exact ⟨(Blk.new wr 25 Z16).row es, g5, grown_trans HK.out.2.2.2.1 g5⟩)
        clear hw5 hp7
        refine (path_ok w5 (HN.out.1.grown H5.out.2.2 (by simp)) b off c ps HN.out.2.1 HN.out.2.2.1 (HN.out.2.2.2.grown H5.out.2.2) k HK.out.2.1 I HK.out.1).mono ?_
        rintro e w6 ⟨g1, cap1, rfl, hc1, hg1, _, hrg1, hk6⟩
        have H6 := Lib.hid (show Blk w6 p7 25 es ∧ wr.grownBy w6 none ∧ w.grownBy w6 none from ⟨H5.out.1.grown hk6 (by simp), grown_trans H5.out.2.1 hk6, grown_trans H5.out.2.2 hk6⟩)
        have HP := Lib.hid (And.intro hc1 (And.intro hrg1 (show wr.heap.size ≤ g1 from Nat.le_trans H5.out.2.1.size hg1)))
        clear hc1 hg1 hrg1 hk6
        go_wp2_with (refine wpList_load_row rfl 25 _ rfl p7 rfl 25 es (0, 0) _ H6.out.1 Tryd.underlying25 rfl (by rw [HES.out.1]; exact info16) ?_)
        refine (climb_own w6 (HN.out.1.grown H6.out.2.2 (by simp)) ps HN.out.2.2.1 k HK.out.2.1 I HK.out.1 g1 cap1 HP.out.2.1 es rs HES.out.2.2.2.2.2 HRS.out.2.2).mono ?_
        rintro e w7 ⟨rfl, hk7⟩
        have H7 := Lib.hid (And.intro (grown_trans H6.out.2.1 hk7) (And.intro (grown_trans H6.out.2.2 hk7) (show ∀ k, k < 5 → w7.rangeAt g1 (0 + k * 16) (wayV ps _ k).toList from fun k hk => range_grown (HP.out.2.1 k hk) hk7)))
        clear hk7
        obtain ⟨w8, hw8⟩ : ∃ w8, w8 = (w7.alloc (.cells Z16 25)).setRow w7.heap.size rs := ⟨_, rfl⟩
        have H8 := Lib.hid (show Blk w8 w7.heap.size 25 rs ∧ RootAt w8 rb lb rs ps k ∧ wr.grownBy w8 none ∧ w.grownBy w8 none ∧ (∀ j, j < 5 → w8.rangeAt g1 (0 + j * 16) (wayV ps k j).toList) from by
          rw [hw8]
          have g8 := grown_row (World.grownBy_alloc w7 (.cells Z16 25) none) (.inl (Nat.le_refl _)) rs
          have g9 := grown_trans H7.out.1 g8
          exact ⟨(Blk.new w7 25 Z16).row rs, ⟨HK.out.2.2.1.1.grown g9 (by simp), HK.out.2.2.1.2.to g9 (by simp)⟩, g9, grown_trans H7.out.2.1 g8, fun j hj => range_grown (H7.out.2.2 j hj) g8⟩)
        have HW8 := Lib.hid hw8
        have hls := Lib.hid (show w8.rangeAt g1 64 ls.toList from by
          have h4 := H8.out.2.2.2.2 4 (by omega)
          rw [wayV_last, ← HLS.out.2.2] at h4
          exact h4)
        have hi6 : (Tryd.prog.info? 25).map (·.size) = some ls.toList.length := by rw [Array.length_toList, HLS.out.1]; exact info16
        have HI6 := Lib.hid hi6
        clear hw8 hi6
        go_wp2_with (first
          | (refine wpList_store_row rfl 25 _ _ rfl w7.heap.size rs rfl rfl 25 _ (heap_alloc_new w7 _) (by rw [HRS.out.1]; exact info16) (by rw [HZ.out.1, HRS.out.1]) HRS.out.2.1 ?_
             rw [← HW8.out])
          | (refine wpList_load_row_w (by rfl) 25 _ rfl w7.heap.size rfl 25 rs (0, 0) _ H8.out.1 Tryd.underlying25 rfl (by rw [HRS.out.1]; exact info16) ?_)
          | (refine wpList_load_row_w (by rfl) 25 _ rfl rb rfl 25 rs (0, 0) _ H8.out.2.1.1 Tryd.underlying25 rfl (by rw [HRS.out.1]; exact info16) ?_)
          | (refine wpList_load_mid rfl 25 _ rfl g1 64 rfl ls.toList _ hls.out Tryd.underlying25 rfl HI6.out ?_; rw [Array.toArray_toList])
          | (refine wpList_store_mid rfl 25 _ _ rfl lb (J.toNat * 16) ls rfl rfl (there_sub H8.out.2.1.2.1 (by omega) (by have h1 := HLS.out.1; have h2 := HK.out.2.2.2.2.1; have h3 := HK.out.2.1; omega)) (by rw [HLS.out.1]; exact info16) HLS.out.2.1 ?_))
        obtain ⟨w9, hw9⟩ : ∃ w9, w9 = w8.setCells lb (J.toNat * 16) ls.toList := ⟨_, rfl⟩
        have H9 := Lib.hid (show RootAt w9 rb lb rs ps (k + 1) ∧ w.grownBy w9 none ∧ w9.rangeAt g1 64 ls.toList from by
          have g9 : w8.grownBy w9 (some lb) := by rw [hw9]; exact grown_setCells lb _ _ _ (World.grownBy.refl _ _)
          have hge := H4.out.2.2.2.2
          have hgl : some g1 ≠ some lb := fun e => by
            have e := Option.some.inj e
            obtain ⟨h1, _⟩ := HK.out.2.2.1.2.1 0 (by omega)
            obtain ⟨v, hv⟩ := Option.isSome_iff_exists.1 h1
            have h2 := World.block_lt_of_cell? wr _ hv
            have h3 := HP.out.2.2
            simp only at h2
            omega
          exact ⟨⟨H8.out.2.1.1.grown g9 (fun e => H4.out.2.2.1 (Option.some.inj e)), by rw [hw9]; exact H8.out.2.1.2.next HN.out.2.2.1 HK.out.2.1 HKZ.out HLS.out.2.2 (by rw [HK.out.2.2.2.2.1])⟩, grown_fresh H8.out.2.2.2.1 g9 hge, range_to hls.out g9 hgl⟩)
        rw [← hw9]
        clear hw9
        have hload : ∀ (z : Gr w9) (bb oo : Nat) (cs : Array Value), cs.size = 16 → w9.rangeAt bb oo cs.toList → Sem.run Tryd.prog (Instr.loadAt 25 (.pointer (some ⟨bb, oo, none⟩))) z.1 = .ok (.agg cs) z.1 := fun z bb oo cs hs hr => by
          have h1 := run_loadAt_mid (P := Tryd.prog) z.1 bb oo 25 cs.toList _ (range_grown hr z.2) Tryd.underlying25 rfl (by rw [Array.length_toList, hs]; exact info16)
          rwa [Array.toArray_toList] at h1
        have V1 := Lib.hid (fun z : Gr w9 => hload z g1 64 ls HLS.out.1 H9.out.2.2)
        have V2 := Lib.hid (fun z : Gr w9 => hload z lb (J.toNat * 16) ls HLS.out.1 (by
          have h1 := H9.out.1.2.get HK.out.2.1
          rw [← HLS.out.2.2, ← HK.out.2.2.2.2.1] at h1
          exact h1))
        clear hload
        try simp only [Act.put, List.setIfInBounds_toArray, List.set_cons_zero, List.set_cons_succ]
        refine wp_region_grown (by kernel_rfl) (by kernel_rfl) ?_
        repeat (first
          | (refine wpQuiet_load_row 25 _ ⟨g1, 64, none⟩ (.agg ls) (by rfl) rfl rfl (by rintro _ ⟨z, rfl⟩; exact V1.out z) ?_; simp only [Act.put, List.setIfInBounds_toArray, List.set_cons_zero, List.set_cons_succ])
          | (refine wpQuiet_load_row 25 _ ⟨lb, J.toNat * 16, none⟩ (.agg ls) (by rfl) rfl rfl (by rintro _ ⟨z, rfl⟩; exact V2.out z) ?_; simp only [Act.put, List.setIfInBounds_toArray, List.set_cons_zero, List.set_cons_succ])
          | go_big_quiet_step (fail))
        refine wpQuiet_nil ?_
        rintro wA ⟨⟨_, kA⟩, rfl⟩
        have HKA := Lib.hid kA
        clear kA
        go_wp2_with fail
        go_roundw
        case rel =>
          obtain ⟨hI, hlt, _⟩ := HK.out
          exact ⟨k + 1, by omega, by rw [hI]; rfl, ⟨H9.out.1.1.grown HKA.out (by simp), H9.out.1.2.to HKA.out (by simp)⟩, grown_trans H9.out.2.1 HKA.out⟩
        case measure => obtain ⟨hI, hlt, _⟩ := HK.out; simp only [intOf]; omega
--Z1
      · have dz : (R == 0) = false := by simp [hz]
        have hkz : k % 16 ≠ 0 := by have h1 := HK.out.1; omega
        have HKZ := Lib.hid hkz
        clear hz hkz hJ hRm
--N0
        go_wp2_with (first
          | (refine wpList_load_mid rfl 25 _ rfl b _ rfl el _ HES.out.2.2.1 Tryd.underlying25 rfl HES.out.2.2.2.1 ?_; rw [HES.out.2.2.2.2.1])
          | (refine wpList_store_row rfl 25 _ _ rfl wr.heap.size es rfl rfl 25 _ (heap_alloc_new wr _) (by rw [HES.out.1]; exact info16) (by rw [HZ.out.1, HES.out.1]) HES.out.2.1 ?_))
        obtain ⟨w5, hw5⟩ : ∃ w5, w5 = (wr.alloc (.cells Z16 25)).setRow wr.heap.size es := ⟨_, rfl⟩
        obtain ⟨p7, hp7⟩ : ∃ p, p = wr.heap.size := ⟨_, rfl⟩
        rw [← hw5, ← hp7]
        have H5 := Lib.hid (show Blk w5 p7 25 es ∧ wr.grownBy w5 none ∧ w.grownBy w5 none from by
          rw [hw5, hp7]
          have g5 := grown_row (World.grownBy_alloc wr (.cells Z16 25) none) (.inl (Nat.le_refl _)) es
          exact ⟨(Blk.new wr 25 Z16).row es, g5, grown_trans HK.out.2.2.2.1 g5⟩)
        clear hw5 hp7
        refine (path_ok w5 (HN.out.1.grown H5.out.2.2 (by simp)) b off c ps HN.out.2.1 HN.out.2.2.1 (HN.out.2.2.2.grown H5.out.2.2) k HK.out.2.1 I HK.out.1).mono ?_
        rintro e w6 ⟨g1, cap1, rfl, hc1, hg1, _, hrg1, hk6⟩
        have H6 := Lib.hid (show Blk w6 p7 25 es ∧ wr.grownBy w6 none ∧ w.grownBy w6 none from ⟨H5.out.1.grown hk6 (by simp), grown_trans H5.out.2.1 hk6, grown_trans H5.out.2.2 hk6⟩)
        have HP := Lib.hid (And.intro hc1 (And.intro hrg1 (show wr.heap.size ≤ g1 from Nat.le_trans H5.out.2.1.size hg1)))
        clear hc1 hg1 hrg1 hk6
        go_wp2_with (refine wpList_load_row rfl 25 _ rfl p7 rfl 25 es (0, 0) _ H6.out.1 Tryd.underlying25 rfl (by rw [HES.out.1]; exact info16) ?_)
        refine (climb_own w6 (HN.out.1.grown H6.out.2.2 (by simp)) ps HN.out.2.2.1 k HK.out.2.1 I HK.out.1 g1 cap1 HP.out.2.1 es rs HES.out.2.2.2.2.2 HRS.out.2.2).mono ?_
        rintro e w7 ⟨rfl, hk7⟩
        have H7 := Lib.hid (And.intro (grown_trans H6.out.2.1 hk7) (And.intro (grown_trans H6.out.2.2 hk7) (show ∀ k, k < 5 → w7.rangeAt g1 (0 + k * 16) (wayV ps _ k).toList from fun k hk => range_grown (HP.out.2.1 k hk) hk7)))
        clear hk7
        obtain ⟨w8, hw8⟩ : ∃ w8, w8 = (w7.alloc (.cells Z16 25)).setRow w7.heap.size rs := ⟨_, rfl⟩
        have H8 := Lib.hid (show Blk w8 w7.heap.size 25 rs ∧ RootAt w8 rb lb rs ps k ∧ wr.grownBy w8 none ∧ w.grownBy w8 none ∧ (∀ j, j < 5 → w8.rangeAt g1 (0 + j * 16) (wayV ps k j).toList) from by
          rw [hw8]
          have g8 := grown_row (World.grownBy_alloc w7 (.cells Z16 25) none) (.inl (Nat.le_refl _)) rs
          have g9 := grown_trans H7.out.1 g8
          exact ⟨(Blk.new w7 25 Z16).row rs, ⟨HK.out.2.2.1.1.grown g9 (by simp), HK.out.2.2.1.2.to g9 (by simp)⟩, g9, grown_trans H7.out.2.1 g8, fun j hj => range_grown (H7.out.2.2 j hj) g8⟩)
        have HW8 := Lib.hid hw8
        have hls := Lib.hid (show w8.rangeAt g1 64 ls.toList from by
          have h4 := H8.out.2.2.2.2 4 (by omega)
          rw [wayV_last, ← HLS.out.2.2] at h4
          exact h4)
        have hi6 : (Tryd.prog.info? 25).map (·.size) = some ls.toList.length := by rw [Array.length_toList, HLS.out.1]; exact info16
        have HI6 := Lib.hid hi6
        clear hw8 hi6
        go_wp2_with (first
          | (refine wpList_store_row rfl 25 _ _ rfl w7.heap.size rs rfl rfl 25 _ (heap_alloc_new w7 _) (by rw [HRS.out.1]; exact info16) (by rw [HZ.out.1, HRS.out.1]) HRS.out.2.1 ?_
             rw [← HW8.out])
          | (refine wpList_load_row_w (by rfl) 25 _ rfl w7.heap.size rfl 25 rs (0, 0) _ H8.out.1 Tryd.underlying25 rfl (by rw [HRS.out.1]; exact info16) ?_)
          | (refine wpList_load_row_w (by rfl) 25 _ rfl rb rfl 25 rs (0, 0) _ H8.out.2.1.1 Tryd.underlying25 rfl (by rw [HRS.out.1]; exact info16) ?_)
          | (refine wpList_load_mid rfl 25 _ rfl g1 64 rfl ls.toList _ hls.out Tryd.underlying25 rfl HI6.out ?_; rw [Array.toArray_toList])
          | (refine wpList_store_mid rfl 25 _ _ rfl lb (J.toNat * 16) ls rfl rfl (there_sub H8.out.2.1.2.1 (by omega) (by have h1 := HLS.out.1; have h2 := HK.out.2.2.2.2.1; have h3 := HK.out.2.1; omega)) (by rw [HLS.out.1]; exact info16) HLS.out.2.1 ?_))
        obtain ⟨w9, hw9⟩ : ∃ w9, w9 = w8 := ⟨_, rfl⟩
        have H9 := Lib.hid (show RootAt w9 rb lb rs ps (k + 1) ∧ w.grownBy w9 none ∧ w9.rangeAt g1 64 ls.toList from by
          rw [hw9]
          exact ⟨⟨H8.out.2.1.1, H8.out.2.1.2.same HKZ.out⟩, H8.out.2.2.2.1, hls.out⟩)
        rw [← hw9]
        clear hw9
        have hload : ∀ (z : Gr w9) (bb oo : Nat) (cs : Array Value), cs.size = 16 → w9.rangeAt bb oo cs.toList → Sem.run Tryd.prog (Instr.loadAt 25 (.pointer (some ⟨bb, oo, none⟩))) z.1 = .ok (.agg cs) z.1 := fun z bb oo cs hs hr => by
          have h1 := run_loadAt_mid (P := Tryd.prog) z.1 bb oo 25 cs.toList _ (range_grown hr z.2) Tryd.underlying25 rfl (by rw [Array.length_toList, hs]; exact info16)
          rwa [Array.toArray_toList] at h1
        have V1 := Lib.hid (fun z : Gr w9 => hload z g1 64 ls HLS.out.1 H9.out.2.2)
        have V2 := Lib.hid (fun z : Gr w9 => hload z lb (J.toNat * 16) ls HLS.out.1 (by
          have h1 := H9.out.1.2.get HK.out.2.1
          rw [← HLS.out.2.2, ← HK.out.2.2.2.2.1] at h1
          exact h1))
        clear hload
        try simp only [Act.put, List.setIfInBounds_toArray, List.set_cons_zero, List.set_cons_succ]
        refine wp_region_grown (by kernel_rfl) (by kernel_rfl) ?_
        repeat (first
          | (refine wpQuiet_load_row 25 _ ⟨g1, 64, none⟩ (.agg ls) (by rfl) rfl rfl (by rintro _ ⟨z, rfl⟩; exact V1.out z) ?_; simp only [Act.put, List.setIfInBounds_toArray, List.set_cons_zero, List.set_cons_succ])
          | (refine wpQuiet_load_row 25 _ ⟨lb, J.toNat * 16, none⟩ (.agg ls) (by rfl) rfl rfl (by rintro _ ⟨z, rfl⟩; exact V2.out z) ?_; simp only [Act.put, List.setIfInBounds_toArray, List.set_cons_zero, List.set_cons_succ])
          | go_big_quiet_step (fail))
        refine wpQuiet_nil ?_
        rintro wA ⟨⟨_, kA⟩, rfl⟩
        have HKA := Lib.hid kA
        clear kA
        go_wp2_with fail
        go_roundw
        case rel =>
          obtain ⟨hI, hlt, _⟩ := HK.out
          exact ⟨k + 1, by omega, by rw [hI]; rfl, ⟨H9.out.1.1.grown HKA.out (by simp), H9.out.1.2.to HKA.out (by simp)⟩, grown_trans H9.out.2.1 HKA.out⟩
        case measure => obtain ⟨hI, hlt, _⟩ := HK.out; simp only [intOf]; omega
--N1
    · obtain rfl : k = 32 := by omega
      have d1 : decide (I < 32) = false := by simp; omega
      have HK := Lib.hid (And.intro hRA hG)
      clear hRA hG hlt hk hI
      go_wp2_with fail
      obtain ⟨ls0, hls0⟩ : ∃ ls, ls = arrV .u8 (nodeC ps 4 1) := ⟨_, rfl⟩
      obtain ⟨ls1, hls1⟩ : ∃ ls, ls = arrV .u8 (nodeC ps 4 0) := ⟨_, rfl⟩
      have l0 : ls0.size = 16 := by rw [hls0, arr_size]; exact (nodeC_dig HN.out.2.2.1 _ _).1
      have l1 : ls1.size = 16 := by rw [hls1, arr_size]; exact (nodeC_dig HN.out.2.2.1 _ _).1
      have hload : ∀ (z : Gr wr) (bb oo : Nat) (cs : Array Value), cs.size = 16 → wr.rangeAt bb oo cs.toList → Sem.run Tryd.prog (Instr.loadAt 25 (.pointer (some ⟨bb, oo, none⟩))) z.1 = .ok (.agg cs) z.1 := fun z bb oo cs hs hr => by
        have h1 := run_loadAt_mid (P := Tryd.prog) z.1 bb oo 25 cs.toList _ (range_grown hr z.2) Tryd.underlying25 rfl (by rw [Array.length_toList, hs]; exact info16)
        rwa [Array.toArray_toList] at h1
      have V1 := Lib.hid (fun z : Gr wr => hload z lb 0 ls0 l0 (by rw [hls0]; exact HK.out.1.2.2 0 (by omega) (by omega)))
      have V2 := Lib.hid (fun z : Gr wr => hload z lb 16 ls1 l1 (by rw [hls1]; exact HK.out.1.2.2 1 (by omega) (by omega)))
      have V3 := Lib.hid (show ∀ z : Gr wr, Sem.run Tryd.prog (Instr.loadAt 25 (.pointer (some ⟨rb, 0, none⟩))) z.1 = .ok (.agg rs) z.1 from fun z => row_load _ rs HRS.out.1 z.1 (HK.out.1.1.grown z.2 (by simp)))
      have S1 := Lib.hid (show ∀ z : Gr wr, Calls Tryd.prog 17 #[.agg ls1, .agg ls0] z.1 fun e w' => e = .returned (.agg rs) ∧ z.1.grownBy w' none from fun z =>
        join_is z.1 (HN.out.1.grown (grown_trans HK.out.2 z.2) (by simp)) _ _ (nodeC_dig HN.out.2.2.1 _ _) (nodeC_dig HN.out.2.2.1 _ _) ls1 ls0 rs hls1 hls0 (by rw [HRS.out.2.2]; rfl))
      clear hls0 hls1 l0 l1 hload
      refine wp_region_grown (by kernel_rfl) (by kernel_rfl) ?_
      repeat (first
        | (refine wpQuiet_load_row 25 _ ⟨lb, 0, none⟩ (.agg ls0) (by rfl) rfl rfl (by rintro _ ⟨z, rfl⟩; exact V1.out z) ?_; simp only [Act.put, List.setIfInBounds_toArray, List.set_cons_zero, List.set_cons_succ])
        | (refine wpQuiet_load_row 25 _ ⟨lb, 16, none⟩ (.agg ls1) (by rfl) rfl rfl (by rintro _ ⟨z, rfl⟩; exact V2.out z) ?_; simp only [Act.put, List.setIfInBounds_toArray, List.set_cons_zero, List.set_cons_succ])
        | (refine wpQuiet_load_row 25 _ ⟨rb, 0, none⟩ (.agg rs) (by rfl) rfl rfl (by rintro _ ⟨z, rfl⟩; exact V3.out z) ?_; simp only [Act.put, List.setIfInBounds_toArray, List.set_cons_zero, List.set_cons_succ])
        | go_big_quiet_step (first
        | (go_at_call 17; with_reducible exact Calls.grown _ (S1.out _))))
      refine wpQuiet_nil ?_
      rintro w7 ⟨⟨_, k7⟩, rfl⟩
      go_wp2_with fail
      go_ret
      exact ⟨rfl, grown_trans HK.out.2 k7⟩
end Go.Proofs.YtobmpdpcjaaklaaDoor
