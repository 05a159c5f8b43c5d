/-
  Several texts in one: ChP, ChA, ChR, ChS.
-/
import Derived.Test.YtmoebkdbnldbdaaGreatDoorM20pj
import Derived.Test.YtmoebkdbnldbdaaGreatDoorM20pi
import Derived.Test.YtmoebkdbnldbdaaGreatDoorM20pw
import Derived.Deep.RegionHeld3
/-
  chains.places: the places of a chain, as an iterator.
-/
namespace Go.Proofs.YtmoebkdbnldbdaaGreatDoor
open Go.RowKit Go.Shelf

attribute [local go_sem] Oper.semAt_some

def placeAt (lo : Int) (k : Nat) : Int := lo + (k : Int)

set_option maxRecDepth 100000 in
set_option maxHeartbeats 2000000 in
theorem places1_in (m l B1 B2 : Nat) (Kp : World → World → Prop) (fr tq lo hi : Int) (n : Nat) (hlo : (¬ 0 ≤ fr ∧ lo = 0) ∨ (0 ≤ fr ∧ lo = fr)) (hhi : (tq ≤ 3 ∧ hi = tq) ∨ (3 < tq ∧ hi = 3)) (hn : n = (hi - lo).toNat) (J Jx : List Int → World → Prop) (hm : 1 ≤ m) (hKc : ∀ A B : World, Kp A B → B.cell? ⟨B2, 0, none⟩ = A.cell? ⟨B2, 0, none⟩)
    (hY : ∀ pre x W, J pre W → pre.length < n → YieldAt Fence.wide (m - 1) Tryz.prog l #[.int .i64 x] W fun e W' =>
      (e = .returned (.bool true) ∧ J (pre ++ [x]) W' ∧ Kp W W') ∨ (e = .returned (.bool false) ∧ Jx (pre ++ [x]) W'))
    (W : World) (h1 : W.cell? ⟨B1, 0, none⟩ = some (.int .i64 fr)) (h2 : W.cell? ⟨B2, 0, none⟩ = some (.int .i64 tq)) (h0 : J [] W) :
    CallsIn Fence.wide m Tryz.prog 124 #[.func (.yield l) #[] #[], .pointer (some ⟨B1, 0, none⟩), .pointer (some ⟨B2, 0, none⟩)] W fun e W' => (∃ v, e = .returned v) ∧
      ((∃ ys, ys = upto (placeAt lo) n ∧ J ys W') ∨ (∃ pre, (∃ k, k ≤ n ∧ pre = upto (placeAt lo) k) ∧ Jx pre W')) := by
  have HN := Lib.hid hn
  have J0 := Lib.hid h0
  have HH := Lib.hid hhi
  clear hn h0 hhi
  rcases hlo with ⟨hf, rfl⟩ | ⟨hf, rfl⟩
  all_goals
    refine callsIn_of_wp Tryz.func124 rfl trivial ?_ rfl
    simp only [Tryz.ntmps124, List.size_toArray, List.length_cons, List.length_nil, Nat.reduceAdd, Nat.reduceSub, Array.replicate_succ, Array.replicate_zero, List.push_toArray, List.append_toArray, List.nil_append, List.cons_append]
    gi_wp2
  · gi_loopw [4] (fun i wr => ∃ k : Nat, k ≤ n ∧ i = .int .i64 (0 + (k : Int)) ∧ J (upto (placeAt 0) k) wr ∧ wr.cell? ⟨B2, 0, none⟩ = some (.int .i64 tq)) (fun i _ => (4 - intOf i).toNat)
    case atStart => exact ⟨0, Nat.zero_le _, by simp, J0.out, h2⟩
    case round =>
      obtain ⟨k, hk, hi', hJs, h2'⟩ := hrel
      obtain ⟨I, hI⟩ : ∃ I : Int, I = 0 + (k : Int) := ⟨_, rfl⟩
      rw [← hI] at hi'
      subst hi'
      clear h2
      by_cases h3 : tq ≤ 3
      · have hhi : hi = tq := by have := HH.out; omega
        have HHI := Lib.hid hhi
        clear hhi
        by_cases hlt : k < n
        · have d1 : decide (I < tq) = true := by have := HN.out; have := HHI.out; simp; omega
          obtain ⟨fn, tmps, assign, body, hy, hR⟩ := hY _ (placeAt 0 k) wr hJs (by rw [upto_length]; exact hlt)
          dsimp only [placeAt] at hy
          rw [← hI] at hy
          have hI3 : 0 ≤ I ∧ I < 3 := by have := HN.out; have := HHI.out; omega
          have HI := Lib.hid (And.intro hI hlt)
          clear hI hlt hk hJs hY
          gi_wp2
          refine hR.mono ?_
          rintro e W3 (⟨rfl, hJ3, hk3⟩ | ⟨rfl, hJx3⟩)
          · gi_wp2
            go_roundw
            case rel => obtain ⟨hI, hlt⟩ := HI.out; exact ⟨k + 1, by omega, by rw [hI]; (first | (congr 1; omega) | congr 1), by rw [upto_succ]; exact hJ3, (hKc _ _ hk3).trans h2'⟩
            case measure => simp only [intOf]; omega
          · gi_wp2
            refine bodyPost_ret (results_none rfl _ _ _) rfl ?_
            exact ⟨⟨_, rfl⟩, .inr ⟨_, ⟨k + 1, by have := HI.out; omega, (upto_succ _ _).symm⟩, hJx3⟩⟩
        · have d1 : decide (I < tq) = false := by have := HN.out; have := HHI.out; simp; omega
          obtain rfl : k = n := by omega
          have HJ := Lib.hid hJs
          clear hI hlt hk hJs hY
          gi_wp2
          go_end0
          first | exact ⟨⟨_, rfl⟩, .inl ⟨_, rfl, HJ.out⟩⟩ | exact ⟨⟨_, rfl⟩, .inl HJ.out⟩
      · have h4 : 3 < tq := by omega
        have hhi : hi = 3 := by have := HH.out; omega
        have HHI := Lib.hid hhi
        clear hhi
        by_cases hlt : k < n
        · have d1 : decide (I < 3) = true := by have := HN.out; have := HHI.out; simp; omega
          obtain ⟨fn, tmps, assign, body, hy, hR⟩ := hY _ (placeAt 0 k) wr hJs (by rw [upto_length]; exact hlt)
          dsimp only [placeAt] at hy
          rw [← hI] at hy
          have hI3 : 0 ≤ I ∧ I < 3 := by have := HN.out; have := HHI.out; omega
          have HI := Lib.hid (And.intro hI hlt)
          clear hI hlt hk hJs hY
          gi_wp2
          refine hR.mono ?_
          rintro e W3 (⟨rfl, hJ3, hk3⟩ | ⟨rfl, hJx3⟩)
          · gi_wp2
            go_roundw
            case rel => obtain ⟨hI, hlt⟩ := HI.out; exact ⟨k + 1, by omega, by rw [hI]; (first | (congr 1; omega) | congr 1), by rw [upto_succ]; exact hJ3, (hKc _ _ hk3).trans h2'⟩
            case measure => simp only [intOf]; omega
          · gi_wp2
            refine bodyPost_ret (results_none rfl _ _ _) rfl ?_
            exact ⟨⟨_, rfl⟩, .inr ⟨_, ⟨k + 1, by have := HI.out; omega, (upto_succ _ _).symm⟩, hJx3⟩⟩
        · have d1 : decide (I < 3) = false := by have := HN.out; have := HHI.out; simp; omega
          obtain rfl : k = n := by omega
          have HJ := Lib.hid hJs
          clear hI hlt hk hJs hY
          gi_wp2
          go_end0
          first | exact ⟨⟨_, rfl⟩, .inl ⟨_, rfl, HJ.out⟩⟩ | exact ⟨⟨_, rfl⟩, .inl HJ.out⟩
  · gi_loopw [4] (fun i wr => ∃ k : Nat, k ≤ n ∧ i = .int .i64 (lo + (k : Int)) ∧ J (upto (placeAt lo) k) wr ∧ wr.cell? ⟨B2, 0, none⟩ = some (.int .i64 tq)) (fun i _ => (4 - intOf i).toNat)
    case atStart => exact ⟨0, Nat.zero_le _, by simp, J0.out, h2⟩
    case round =>
      obtain ⟨k, hk, hi', hJs, h2'⟩ := hrel
      obtain ⟨I, hI⟩ : ∃ I : Int, I = lo + (k : Int) := ⟨_, rfl⟩
      rw [← hI] at hi'
      subst hi'
      clear h2
      by_cases h3 : tq ≤ 3
      · have hhi : hi = tq := by have := HH.out; omega
        have HHI := Lib.hid hhi
        clear hhi
        by_cases hlt : k < n
        · have d1 : decide (I < tq) = true := by have := HN.out; have := HHI.out; simp; omega
          obtain ⟨fn, tmps, assign, body, hy, hR⟩ := hY _ (placeAt lo k) wr hJs (by rw [upto_length]; exact hlt)
          dsimp only [placeAt] at hy
          rw [← hI] at hy
          have hI3 : 0 ≤ I ∧ I < 3 := by have := HN.out; have := HHI.out; omega
          have HI := Lib.hid (And.intro hI hlt)
          clear hI hlt hk hJs hY
          gi_wp2
          refine hR.mono ?_
          rintro e W3 (⟨rfl, hJ3, hk3⟩ | ⟨rfl, hJx3⟩)
          · gi_wp2
            go_roundw
            case rel => obtain ⟨hI, hlt⟩ := HI.out; exact ⟨k + 1, by omega, by rw [hI]; (first | (congr 1; omega) | congr 1), by rw [upto_succ]; exact hJ3, (hKc _ _ hk3).trans h2'⟩
            case measure => simp only [intOf]; omega
          · gi_wp2
            refine bodyPost_ret (results_none rfl _ _ _) rfl ?_
            exact ⟨⟨_, rfl⟩, .inr ⟨_, ⟨k + 1, by have := HI.out; omega, (upto_succ _ _).symm⟩, hJx3⟩⟩
        · have d1 : decide (I < tq) = false := by have := HN.out; have := HHI.out; simp; omega
          obtain rfl : k = n := by omega
          have HJ := Lib.hid hJs
          clear hI hlt hk hJs hY
          gi_wp2
          go_end0
          first | exact ⟨⟨_, rfl⟩, .inl ⟨_, rfl, HJ.out⟩⟩ | exact ⟨⟨_, rfl⟩, .inl HJ.out⟩
      · have h4 : 3 < tq := by omega
        have hhi : hi = 3 := by have := HH.out; omega
        have HHI := Lib.hid hhi
        clear hhi
        by_cases hlt : k < n
        · have d1 : decide (I < 3) = true := by have := HN.out; have := HHI.out; simp; omega
          obtain ⟨fn, tmps, assign, body, hy, hR⟩ := hY _ (placeAt lo k) wr hJs (by rw [upto_length]; exact hlt)
          dsimp only [placeAt] at hy
          rw [← hI] at hy
          have hI3 : 0 ≤ I ∧ I < 3 := by have := HN.out; have := HHI.out; omega
          have HI := Lib.hid (And.intro hI hlt)
          clear hI hlt hk hJs hY
          gi_wp2
          refine hR.mono ?_
          rintro e W3 (⟨rfl, hJ3, hk3⟩ | ⟨rfl, hJx3⟩)
          · gi_wp2
            go_roundw
            case rel => obtain ⟨hI, hlt⟩ := HI.out; exact ⟨k + 1, by omega, by rw [hI]; (first | (congr 1; omega) | congr 1), by rw [upto_succ]; exact hJ3, (hKc _ _ hk3).trans h2'⟩
            case measure => simp only [intOf]; omega
          · gi_wp2
            refine bodyPost_ret (results_none rfl _ _ _) rfl ?_
            exact ⟨⟨_, rfl⟩, .inr ⟨_, ⟨k + 1, by have := HI.out; omega, (upto_succ _ _).symm⟩, hJx3⟩⟩
        · have d1 : decide (I < 3) = false := by have := HN.out; have := HHI.out; simp; omega
          obtain rfl : k = n := by omega
          have HJ := Lib.hid hJs
          clear hI hlt hk hJs hY
          gi_wp2
          go_end0
          first | exact ⟨⟨_, rfl⟩, .inl ⟨_, rfl, HJ.out⟩⟩ | exact ⟨⟨_, rfl⟩, .inl HJ.out⟩
end Go.Proofs.YtmoebkdbnldbdaaGreatDoor
/-
  chains.small, chains.Secret.
-/
namespace Go.Proofs.YtmoebkdbnldbdaaGreatDoor
open Go.RowKit

theorem small_is (w : World) (n : Int) : Calls Tryz.prog 121 #[.int .i64 n] w fun e w' => e = .returned (.slice (some ⟨w.heap.size, 0, none⟩) 1 1) ∧ w' = w.alloc (.cells #[.int .u8 (n % 256)] 5) := by
  go_enter Tryz.func121, Tryz.ntmps121
  go_wp2_with fail
  go_ret
  exact ⟨rfl, rfl⟩
end Go.Proofs.YtmoebkdbnldbdaaGreatDoor
/-
  chains.Run: a range over the places.
-/
namespace Go.Proofs.YtmoebkdbnldbdaaGreatDoor
open Go.RowKit Go.Shelf

attribute [local go_sem] Oper.semAt_some

theorem places_in (F : Fence) (m : Nat) (fr tq : Int) (w : World) (h : F = Fence.wide) : CallsIn F m Tryz.prog 120 #[.int .i64 fr, .int .i64 tq] w fun e w' => e = .returned (.func (.func 124) #[] #[.pointer (some ⟨w.heap.size, 0, none⟩), .pointer (some ⟨w.heap.size + 1, 0, none⟩)]) ∧
      w' = (w.alloc (.cells #[.int .i64 fr] 3)).alloc (.cells #[.int .i64 tq] 3) := by
  subst h
  refine callsIn_of_wp Tryz.func120 rfl trivial ?_ rfl
  simp only [Tryz.ntmps120, List.size_toArray, List.length_cons, List.length_nil, Nat.reduceAdd, Nat.reduceSub, Array.replicate_succ, Array.replicate_zero, List.push_toArray, List.append_toArray, List.nil_append, List.cons_append]
  gi_wp2
  go_ret
  exact ⟨rfl, rfl⟩
theorem places_seq (m : Nat) (hm : 1 ≤ m) (B1 B2 : Nat) (Kp : World → World → Prop) (hKc : ∀ A B : World, Kp A B → B.cell? ⟨B2, 0, none⟩ = A.cell? ⟨B2, 0, none⟩) (fr tq lo hi : Int) (n : Nat) (hlo : (¬ 0 ≤ fr ∧ lo = 0) ∨ (0 ≤ fr ∧ lo = fr)) (hhi : (tq ≤ 3 ∧ hi = tq) ∨ (3 < tq ∧ hi = 3)) (hn : n = (hi - lo).toNat) (w : World) (hB1 : B1 < w.heap.size) (hB2 : B2 < w.heap.size) (h1 : w.cell? ⟨B1, 0, none⟩ = some (.int .i64 fr)) (h2 : w.cell? ⟨B2, 0, none⟩ = some (.int .i64 tq)) :
    SeqStopsK Fence.wide m Tryz.prog 124 #[.pointer (some ⟨B1, 0, none⟩), .pointer (some ⟨B2, 0, none⟩)] (fun x : Int => #[.int .i64 x]) Kp
      (fun ys => ys = upto (placeAt lo) n) (fun pre => ∃ k, k ≤ n ∧ pre = upto (placeAt lo) k) n w := fun l J Jx W hW _ _ hY h0 =>
  places1_in m l B1 B2 Kp fr tq lo hi n hlo hhi hn J Jx hm hKc hY W ((hW.cell (p := ⟨B1, 0, none⟩) hB1).trans h1) ((hW.cell (p := ⟨B2, 0, none⟩) hB2).trans h2) h0
def runL (x : List Int) (lf i : Int) (pre : List Int) : List Int := pre.foldl (fun y k => stepC y lf i k) x
theorem runL_snoc (x : List Int) (lf i : Int) (pre : List Int) (k : Int) : runL x lf i (pre ++ [k]) = stepC (runL x lf i pre) lf i k := by rw [runL, List.foldl_append, List.foldl_cons, List.foldl_nil, runL]
theorem runL_dig (lf i : Int) : ∀ (pre : List Int) (x : List Int), isDig x → isDig (runL x lf i pre)
  | [], x, h => by rw [runL, List.foldl_nil]; exact h
  | k :: pre, x, _ => by
    have := runL_dig lf i pre (stepC x lf i k) (stepC_dig _ _ _ _)
    rw [runL] at this
    rw [runL, List.foldl_cons]; exact this
theorem runL_upto (x : List Int) (lf i lo : Int) : ∀ n, runL x lf i (upto (placeAt lo) n) = runC x lf i lo n
  | 0 => by rw [runC, upto, List.range_zero, List.map_nil, runL, List.foldl_nil]
  | n + 1 => by rw [upto_succ, runL_snoc, runL_upto x lf i lo n, runC_succ, placeAt]

set_option maxRecDepth 100000 in
set_option maxHeartbeats 4000000 in
theorem run_is (w : World) (hR : Rounds w) (x : List Int) (hx : isDig x) (lf i fr tq lo hi : Int) (n : Nat) (hlo : (¬ 0 ≤ fr ∧ lo = 0) ∨ (0 ≤ fr ∧ lo = fr)) (hhi : (tq ≤ 3 ∧ hi = tq) ∨ (3 < tq ∧ hi = 3)) (hn : n = (hi - lo).toNat) (rs : Array Value) (hrs : rs = arrV .u8 (runC x lf i lo n)) :
    Calls Tryz.prog 110 #[.agg (arrV .u8 x), .int .i64 lf, .int .i64 i, .int .i64 fr, .int .i64 tq] w fun e w' => e = .returned (.agg rs) ∧ w.grownBy w' none := by
  obtain ⟨Z16, hZ16⟩ : ∃ Z, Z = arrV .u8 (List.replicate 16 0) := ⟨_, rfl⟩
  have hz16 : ∀ w, Sem.run Tryz.prog (zeroValue 24) w = .ok (.agg Z16) w := fun w => by rw [hZ16]; exact z16run w
  have hZs : Z16.size = 16 := by rw [hZ16]; rfl
  obtain ⟨ds, hds⟩ : ∃ ds, ds = arrV .u8 x := ⟨_, rfl⟩
  rw [← hds]
  have HD := Lib.hid (show ds = arrV .u8 (runL x lf i []) ∧ ds.size = 16 ∧ Z16.size = 16 from ⟨by rw [hds, runL, List.foldl_nil], by rw [hds, arr_size, hx.1], hZs⟩)
  have HN := Lib.hid (And.intro hx (And.intro hlo (And.intro hhi (And.intro hn (And.intro hrs hR)))))
  clear hZ16 hZs hds hx hlo hhi hn hrs hR
  refine (callsIn_wide (n := 5)).1 ?_
  refine callsIn_of_wp_marks Tryz.func110 rfl trivial ?_ rfl
  simp only [Tryz.ntmps110, List.size_toArray, List.length_cons, List.length_nil, Nat.reduceAdd, Nat.reduceSub, Array.replicate_succ, Array.replicate_zero, List.push_toArray, List.append_toArray, List.nil_append, List.cons_append]
  gi_wp2
  refine ⟨trivial, ?_⟩
  refine (places_in _ _ _ _ _ rfl).mono ?_
  rintro e w1 ⟨rfl, rfl⟩
  gi_wp2
  have b0 := Blk.new w 24 ds
  have b1 := Blk.new (w.alloc (.cells ds 24)) 3 #[.int .i64 lf]
  have b2 := Blk.new ((w.alloc (.cells ds 24)).alloc (.cells #[.int .i64 lf] 3)) 3 #[.int .i64 i]
  have b3 := Blk.new (((w.alloc (.cells ds 24)).alloc (.cells #[.int .i64 lf] 3)).alloc (.cells #[.int .i64 i] 3)) 24 Z16
  have b4 := Blk.new ((((w.alloc (.cells ds 24)).alloc (.cells #[.int .i64 lf] 3)).alloc (.cells #[.int .i64 i] 3)).alloc (.cells Z16 24)) 3 #[.int .i64 fr]
  have b5 := Blk.new (((((w.alloc (.cells ds 24)).alloc (.cells #[.int .i64 lf] 3)).alloc (.cells #[.int .i64 i] 3)).alloc (.cells Z16 24)).alloc (.cells #[.int .i64 fr] 3)) 3 #[.int .i64 tq]
  simp only [World.size_alloc] at b1 b2 b3 b4 b5
  have c0 := (((((b0.alloc (.cells #[.int .i64 lf] 3)).alloc (.cells #[.int .i64 i] 3)).alloc (.cells Z16 24)).alloc (.cells #[.int .i64 fr] 3)).alloc (.cells #[.int .i64 tq] 3))
  have c1 := ((((b1.alloc (.cells #[.int .i64 i] 3)).alloc (.cells Z16 24)).alloc (.cells #[.int .i64 fr] 3)).alloc (.cells #[.int .i64 tq] 3))
  have c2 := (((b2.alloc (.cells Z16 24)).alloc (.cells #[.int .i64 fr] 3)).alloc (.cells #[.int .i64 tq] 3))
  have c3 := ((b3.alloc (.cells #[.int .i64 fr] 3)).alloc (.cells #[.int .i64 tq] 3))
  have c4 := (b4.alloc (.cells #[.int .i64 tq] 3))
  have c5 := b5
  have hg0 : w.grownBy ((((((w.alloc (.cells ds 24)).alloc (.cells #[.int .i64 lf] 3)).alloc (.cells #[.int .i64 i] 3)).alloc (.cells Z16 24)).alloc (.cells #[.int .i64 fr] 3)).alloc (.cells #[.int .i64 tq] 3)) none := (grown_trans (grown_trans (grown_trans (grown_trans (grown_trans (World.grownBy_alloc w _ none) (World.grownBy_alloc _ _ none)) (World.grownBy_alloc _ _ none)) (World.grownBy_alloc _ _ none)) (World.grownBy_alloc _ _ none)) (World.grownBy_alloc _ _ none))
  obtain ⟨W0, hW0⟩ : ∃ W0, ((((((w.alloc (.cells ds 24)).alloc (.cells #[.int .i64 lf] 3)).alloc (.cells #[.int .i64 i] 3)).alloc (.cells Z16 24)).alloc (.cells #[.int .i64 fr] 3)).alloc (.cells #[.int .i64 tq] 3)) = W0 := ⟨_, rfl⟩
  have hsz : W0.heap.size = w.heap.size + 6 := by rw [← hW0]; simp
  rw [hW0] at hg0 c0 c1 c2 c3 c4 c5 ⊢
  clear b0 b1 b2 b3 b4 b5 hW0
  have hlt := hsz
  refine wpIn_rangeFunc_ownG rfl (by omega) (gf := 124) (lb := #[.pointer (some ⟨w.heap.size + 1 + 1 + 1 + 1, 0, none⟩), .pointer (some ⟨w.heap.size + 1 + 1 + 1 + 1 + 1, 0, none⟩)]) rfl trivial (enters_of Tryz.func124 (by kernel_rfl) rfl)
    (places_seq 4 (by omega) (w.heap.size + 1 + 1 + 1 + 1) (w.heap.size + 1 + 1 + 1 + 1 + 1) (fun A B => B.cell? ⟨w.heap.size + 1 + 1 + 1 + 1 + 1, 0, none⟩ = A.cell? ⟨w.heap.size + 1 + 1 + 1 + 1 + 1, 0, none⟩) (fun _ _ h => h) fr tq lo hi n (by have := HN.out.2.1; omega) (by have := HN.out.2.2.1; omega) HN.out.2.2.2.1 W0 (by omega) (by omega) (c4.cell 0) (c5.cell 0)) (fun h1 h2 => h2.trans h1)
    (fun W l o o' hl ho hc hw => (belowK_b (w := W0) (Nat.le_refl _) W l o o' hl ho hc hw).cell (p := ⟨w.heap.size + 1 + 1 + 1 + 1 + 1, 0, none⟩) (by dsimp only; omega)) (Below.refl _ _) (fun _ => rfl)
    (fun pre W => Blk W w.heap.size 24 (arrV .u8 (runL x lf i pre)) ∧ (Blk W (w.heap.size + 1) 3 #[.int .i64 lf] ∧ (Blk W (w.heap.size + 1 + 1) 3 #[.int .i64 i] ∧ (Blk W (w.heap.size + 1 + 1 + 1) 24 Z16 ∧ (Blk W (w.heap.size + 1 + 1 + 1 + 1 + 1) 3 #[.int .i64 tq] ∧ w.grownBy W none)))))
    (fun _ _ _ => False)
    (OwnFrom.and (ownFrom_blk _) (OwnFrom.and (ownFrom_blk _) (OwnFrom.and (ownFrom_blk _) (OwnFrom.and (ownFrom_blk _) (OwnFrom.and (ownFrom_blk _) (ownFrom_grown (by omega)))))))
    (fun _ => ownFrom_pure _)
    ⟨by rw [← HD.out.1]; exact c0, c1, c2, c3, c5, hg0⟩
    (fun kk => { tmps := #[.agg ds, .int .i64 lf, .int .i64 i, .int .i64 fr, .int .i64 tq, .pointer (some ⟨w.heap.size, 0, none⟩), .pointer (some ⟨w.heap.size + 1, 0, none⟩), .pointer (some ⟨w.heap.size + 1 + 1, 0, none⟩), undef, undef, .pointer (some ⟨w.heap.size + 1 + 1 + 1, 0, none⟩), .int .i64 kk, .int .i64 fr, .int .i64 tq, .func (.func 124) #[] #[.pointer (some ⟨w.heap.size + 1 + 1 + 1 + 1, 0, none⟩), .pointer (some ⟨w.heap.size + 1 + 1 + 1 + 1 + 1, 0, none⟩)], .int .i64 kk, undef, undef, undef, undef, undef, undef, undef, undef, undef, undef], defers := [] }) ?assign ?body ?done ?stop
  case assign =>
    intro l kk W K hK
    gi_wp2
    exact hK
  case body =>
    rintro l pre kk W ⟨hB, hL, hI, hZ, hT, hG⟩ _
    have hsl := dig_slice
    have hdg := runL_dig lf i pre x HN.out.1
    have hss : ∀ V, W.grownBy V none → V.cell? ⟨w.heap.size + 1, 0, none⟩ = some (.int .i64 lf) ∧ V.cell? ⟨w.heap.size + 1 + 1, 0, none⟩ = some (.int .i64 i) := fun V hV => ⟨(hL.grown hV (by simp)).cell 0, (hI.grown hV (by simp)).cell 0⟩
    have HSS := Lib.hid hss
    have HB := Lib.hid (And.intro hB (And.intro hZ (And.intro hG (And.intro hL (And.intro hI hT)))))
    have HDG := Lib.hid hdg
    clear hB hL hI hZ hT hG hss hdg
    gi_wp2
    refine wpIn_region_held_round (S := fun V => V.cell? ⟨w.heap.size + 1, 0, none⟩ = some (.int .i64 lf) ∧ V.cell? ⟨w.heap.size + 1 + 1, 0, none⟩ = some (.int .i64 i)) (by kernel_rfl) (by kernel_rfl) (by rintro ⟨_, _, h⟩; exact h) (HSS.out _ (grown_drew (World.grownBy.refl W none))) (fun _ => ?_)
    refine wpAnyH_take (i := 0) (oi := _) (v := ?v0) rfl (by kernel_rfl) (by kernel_rfl) (by kernel_rfl) (fun _ _ _ h => h) (Or.inl ⟨by rfl, ?hy0⟩) (by assumption) ?rest0
    case hy0 => (intro V hSw; (try dsimp only at hSw); go_simp) <;> with_reducible rfl
    simp only [Act.put, List.getElem_toArray, List.getElem_cons_zero, List.setIfInBounds_toArray, List.set_cons_zero, List.set_cons_succ]
    refine wpAnyH_take (i := 1) (oi := _) (v := ?v1) rfl (by kernel_rfl) (by kernel_rfl) (by kernel_rfl) (fun _ _ _ h => h) (Or.inl ⟨by rfl, ?hy1⟩) (by assumption) ?rest1
    case hy1 => (intro V hSw; (try dsimp only at hSw); go_simp) <;> with_reducible rfl
    simp only [Act.put, List.getElem_toArray, List.getElem_cons_succ, List.getElem_cons_zero, List.setIfInBounds_toArray, List.set_cons_zero, List.set_cons_succ]
    refine wpAnyH_take (i := 3) (oi := _) (v := ?v3) rfl (by kernel_rfl) (by kernel_rfl) (by kernel_rfl) (fun _ _ _ h => h) (Or.inl ⟨by rfl, ?hy3⟩) (by assumption) ?rest3
    case hy3 => (intro V hSw; (try dsimp only at hSw); go_simp) <;> with_reducible rfl
    simp only [Act.put, List.getElem_toArray, List.getElem_cons_succ, List.getElem_cons_zero, List.setIfInBounds_toArray, List.set_cons_zero, List.set_cons_succ]
    refine wpAnyH_take (i := 5) (oi := _) (v := ?v5) rfl (by kernel_rfl) (by kernel_rfl) (by kernel_rfl) (fun _ _ _ h => h) (Or.inl ⟨by rfl, ?hy5⟩) (by assumption) ?rest5
    case hy5 => (intro V hSw; (try dsimp only at hSw); go_simp) <;> with_reducible rfl
    simp only [Act.put, List.getElem_toArray, List.getElem_cons_succ, List.getElem_cons_zero, List.setIfInBounds_toArray, List.set_cons_zero, List.set_cons_succ]
    refine wpAnyH_ready (rs := [2]) (by kernel_rfl) (by simp) ?_
    refine AllReadyH.cons (o := _) rfl (fun K hK => ?_) AllReadyH.nil
    go_simp
    refine (small_is _ _).mono ?_
    rintro e V0 ⟨rfl, rfl⟩
    go_wp2_with fail
    have G1 : W.grownBy (W.drew.alloc (.cells #[.int .u8 (lf % 256)] 5)) none := grown_trans (grown_drew (World.grownBy.refl W none)) (World.grownBy_alloc _ _ none)
    refine hK.out _ _ (HSS.out _ G1) (fun _ => ?_)
    clear hK K
    try simp only [Act.put, List.setIfInBounds_toArray, List.set_cons_zero, List.set_cons_succ]
    refine wpAnyH_ready (rs := [4]) (by kernel_rfl) (by simp) ?_
    refine AllReadyH.cons (o := _) rfl (fun K hK => ?_) AllReadyH.nil
    go_simp
    refine (small_is _ _).mono ?_
    rintro e V1 ⟨rfl, rfl⟩
    go_wp2_with fail
    have G2 : W.grownBy ((W.drew.alloc (.cells #[.int .u8 (lf % 256)] 5)).alloc (.cells #[.int .u8 (i % 256)] 5)) none := grown_trans G1 (World.grownBy_alloc _ _ none)
    refine hK.out _ _ (HSS.out _ G2) (fun _ => ?_)
    clear hK K
    try simp only [Act.put, List.setIfInBounds_toArray, List.set_cons_zero, List.set_cons_succ]
    refine wpAnyH_ready (rs := [6]) (by kernel_rfl) (by simp) ?_
    refine AllReadyH.cons (o := _) rfl (fun K hK => ?_) AllReadyH.nil
    go_simp
    refine (small_is _ _).mono ?_
    rintro e V2 ⟨rfl, rfl⟩
    go_wp2_with fail
    have G3 : W.grownBy (((W.drew.alloc (.cells #[.int .u8 (lf % 256)] 5)).alloc (.cells #[.int .u8 (i % 256)] 5)).alloc (.cells #[.int .u8 (kk % 256)] 5)) none := grown_trans G2 (World.grownBy_alloc _ _ none)
    refine hK.out _ _ (HSS.out _ G3) (fun _ => ?_)
    clear hK K
    try simp only [Act.put, List.setIfInBounds_toArray, List.set_cons_zero, List.set_cons_succ]
    have A4 : W.grownBy ((((W.alloc (.cells #[.int .u8 (lf % 256)] 5)).alloc (.cells #[.int .u8 (i % 256)] 5)).alloc (.cells #[.int .u8 (kk % 256)] 5)).alloc (.cells #[.slice (some ⟨w.heap.size, 0, none⟩) 16 16, .slice (some ⟨W.heap.size, 0, none⟩) 1 1, .slice (some ⟨W.heap.size + 1, 0, none⟩) 1 1, .slice (some ⟨W.heap.size + 1 + 1, 0, none⟩) 1 1] 61)) none := grown_trans (grown_trans (grown_trans (World.grownBy_alloc W _ none) (World.grownBy_alloc _ _ none)) (World.grownBy_alloc _ _ none)) (World.grownBy_alloc _ _ none)
    have HP := Lib.hid (show PartsI ((((W.alloc (.cells #[.int .u8 (lf % 256)] 5)).alloc (.cells #[.int .u8 (i % 256)] 5)).alloc (.cells #[.int .u8 (kk % 256)] 5)).alloc (.cells #[.slice (some ⟨w.heap.size, 0, none⟩) 16 16, .slice (some ⟨W.heap.size, 0, none⟩) 1 1, .slice (some ⟨W.heap.size + 1, 0, none⟩) 1 1, .slice (some ⟨W.heap.size + 1 + 1, 0, none⟩) 1 1] 61)).drew (some ⟨W.heap.size + 1 + 1 + 1, 0, none⟩) [runL x lf i pre, [lf % 256], [i % 256], [kk % 256]] from by
      have := parts_new (((W.alloc (.cells #[.int .u8 (lf % 256)] 5)).alloc (.cells #[.int .u8 (i % 256)] 5)).alloc (.cells #[.int .u8 (kk % 256)] 5)) 61 #[.slice (some ⟨w.heap.size, 0, none⟩) 16 16, .slice (some ⟨W.heap.size, 0, none⟩) 1 1, .slice (some ⟨W.heap.size + 1, 0, none⟩) 1 1, .slice (some ⟨W.heap.size + 1 + 1, 0, none⟩) 1 1] [runL x lf i pre, [lf % 256], [i % 256], [kk % 256]] (fun j hj => by
        have : j = 0 ∨ j = 1 ∨ j = 2 ∨ j = 3 := by simp at hj; omega
        rcases this with rfl | rfl | rfl | rfl
        · exact ⟨_, 16, 16, rfl, HDG.out.1, Nat.le_refl _, bytes_blk (t := 24) (HB.out.1.grown A4 (by simp))⟩
        · exact ⟨_, 1, 1, rfl, rfl, Nat.le_refl _, bytes_blk (t := 5) (((((Blk.new W 5 (arrV .u8 [lf % 256])).alloc _).alloc _).alloc _))⟩
        · exact ⟨_, 1, 1, rfl, rfl, Nat.le_refl _, bytes_blk (t := 5) (by have := (Blk.new (W.alloc (.cells #[.int .u8 (lf % 256)] 5)) 5 (arrV .u8 [i % 256])); rw [World.size_alloc] at this; exact (this.alloc _).alloc _)⟩
        · exact ⟨_, 1, 1, rfl, rfl, Nat.le_refl _, bytes_blk (t := 5) (by have := (Blk.new ((W.alloc (.cells #[.int .u8 (lf % 256)] 5)).alloc (.cells #[.int .u8 (i % 256)] 5)) 5 (arrV .u8 [kk % 256])); rw [World.size_alloc, World.size_alloc] at this; exact this.alloc _)⟩)
      rw [World.size_alloc, World.size_alloc, World.size_alloc] at this
      exact this.grown (grown_drew (World.grownBy.refl _ none)))
    have HA4 := Lib.hid (grown_drew A4)
    obtain ⟨c6, hc6⟩ : ∃ c6, c6 = arrV .u8 (runL x lf i (pre ++ [kk])) := ⟨_, rfl⟩
    have hs16 : c6.size = 16 := by rw [hc6, arr_size]; exact (runL_dig lf i _ x HN.out.1).1
    have HS6 := Lib.hid (And.intro hs16 (And.intro (show (c6.all fun x => x.oneCell') = true by rw [hc6]; exact arr_one _ _) (And.intro hc6 (show arrV .u8 (ofS 2 [runL x lf i pre, [lf % 256], [i % 256], [kk % 256]]) = c6 by rw [hc6, runL_snoc, stepC]))))
    have hps : ∀ p ∈ [runL x lf i pre, [lf % 256], [i % 256], [kk % 256]], p.length ≤ 65536 := by
      intro p hp
      have : p.length = 16 ∨ p.length = 1 := by
        simp only [List.mem_cons, List.not_mem_nil, or_false] at hp
        rcases hp with rfl | rfl | rfl | rfl
        · exact .inl HDG.out.1
        · exact .inr rfl
        · exact .inr rfl
        · exact .inr rfl
      omega
    have HPS := Lib.hid hps
    clear A4 hs16 hc6 hps
    refine wpAnyH_ready (rs := [7]) (by kernel_rfl) (by simp) ?_
    refine AllReadyH.cons (o := _) rfl (fun K hK => ?_) AllReadyH.nil
    go_simp
    refine hK.out _ _ (HSS.out _ HA4.out) (fun _ => ?_)
    clear hK K
    try simp only [Act.put, List.setIfInBounds_toArray, List.set_cons_zero, List.set_cons_succ]
    refine wpAnyH_ready (rs := [8]) (by kernel_rfl) (by simp) ?_
    refine AllReadyH.cons (o := _) rfl (fun K hK => ?_) AllReadyH.nil
    go_simp
    refine (of_is _ (HN.out.2.2.2.2.2.grown (grown_trans HB.out.2.2.1 HA4.out) (by simp)) 2 _ 4 4 [runL x lf i pre, [lf % 256], [i % 256], [kk % 256]] rfl HP.out (by omega) HPS.out).mono ?_
    rintro e w9 ⟨rfl, hk9⟩
    rw [HS6.out.2.2.2]
    have HK9 := Lib.hid (grown_trans HA4.out hk9)
    clear hk9
    go_wp2_with fail
    refine hK.out _ _ (HSS.out _ HK9.out) (fun _ => ?_)
    clear hK K
    try simp only [Act.put, List.setIfInBounds_toArray, List.set_cons_zero, List.set_cons_succ]
    refine wpAnyH_ready (rs := [9]) (by kernel_rfl) (by simp) ?_
    refine AllReadyH.cons (o := _) rfl (fun K hK => ?_) AllReadyH.nil
    rw [if_pos (by rfl)]
    refine wp_store_row _ _ _ rfl w.heap.size c6 rfl rfl 24 _ (HB.out.1.grown HK9.out (by simp)) (by rw [HS6.out.1]; exact info16) (by rw [HS6.out.1, arr_size]; exact HDG.out.1) HS6.out.2.1 ?_
    have hg9 : W.grownBy (w9.setRow w.heap.size c6) (some w.heap.size) := grown_row (grown_weak HK9.out _) (.inr rfl) c6
    have hL9 := (HB.out.2.2.2.1.grown HK9.out (by simp)).farRow (g' := w.heap.size) (by omega) c6
    have hT9 := (HB.out.2.2.2.2.2.grown HK9.out (by simp)).farRow (g' := w.heap.size) (by omega) c6
    have hI9 := (HB.out.2.2.2.2.1.grown HK9.out (by simp)).farRow (g' := w.heap.size) (by omega) c6
    have hZ9 := (HB.out.2.1.grown HK9.out (by simp)).farRow (g' := w.heap.size) (by omega) c6
    refine hK.out _ _ ⟨hL9.cell 0, hI9.cell 0⟩ (fun _ => ?_)
    refine wpAnyH_done (by kernel_rfl) ?_ _
    refine ⟨(keeps_row HB.out.1 hg9).from _, ?_, ?_, hL9, hI9, hZ9, hT9, ?_⟩
    · exact (hT9.cell 0).trans (HB.out.2.2.2.2.2.cell 0).symm
    · rw [← HS6.out.2.2.1]
      exact (HB.out.1.grown HK9.out (by simp)).row c6
    · exact grown_row (grown_trans HB.out.2.2.1 HK9.out) (.inl (Nat.le_refl _)) c6
  case done =>
    rintro Dd ys W hD rfl ⟨hB, hL, hI, hZ, hT, hG⟩ hK
    have hr : arrV .u8 (runL x lf i (upto (placeAt lo) n)) = rs := by rw [runL_upto, HN.out.2.2.2.2.1]
    rw [hr] at hB
    have hsz : rs.size = 16 := by rw [HN.out.2.2.2.2.1, arr_size]; exact (runC_dig x lf i lo HN.out.1 n).1
    have HSS := Lib.hid (And.intro hsz (show (rs.all fun v => v.oneCell') = true by rw [HN.out.2.2.2.2.1]; exact arr_one _ _))
    have HB := Lib.hid hB
    have HZ := Lib.hid hZ
    have HG := Lib.hid hG
    have HKD := Lib.hid hK
    clear hr hsz hB hL hI hZ hT hG
    gi_wp2_with (first
        | (refine wpListIn_load_row rfl 24 _ rfl w.heap.size rfl 24 rs (0, 0) _ HB.out Tryz.underlying24 rfl (by rw [HSS.out.1]; exact info16) ?_)
        | (refine wpListIn_store_row rfl 24 _ _ rfl (w.heap.size + 1 + 1 + 1) rs rfl rfl 24 _ HZ.out (by rw [HSS.out.1]; exact info16) (by rw [HD.out.2.2, HSS.out.1]) HSS.out.2 ?_))
    have hK' : (W.setRow (w.heap.size + 1 + 1 + 1) rs).heap[Dd]? = some (.deferred (some [])) := (setRow_other _ _ _ _ (by omega)).trans HKD.out
    have hZ' := (HZ.out.row rs).grown (grownBy_putObj' _ Dd (.deferred none)) (by intro e; have := Option.some.inj e; omega)
    refine ⟨by simp, .inl ⟨_, _, rfl, run_takeDeferred hK', ?_⟩⟩
    refine ⟨.agg rs, ?_, rfl, grown_fresh (grown_row HG.out (.inl (by omega)) rs) (grownBy_putObj' _ Dd (.deferred none)) (by omega)⟩
    exact results_cell rfl _ _ _ ⟨w.heap.size + 1 + 1 + 1, 0, none⟩ (.agg rs) rfl (run_loadVar_row _ (w.heap.size + 1 + 1 + 1) 24 24 rs (0, 0) _ hZ' Tryz.underlying24 rfl (by rw [HSS.out.1]; exact info16))
  case stop => rintro Dd c pre W hD hk h hK; exact h.elim
end Go.Proofs.YtmoebkdbnldbdaaGreatDoor
/-
  chains.secrets: a leaf's chains, each with its secret, as an iterator.
-/

namespace Go.Proofs.YtmoebkdbnldbdaaGreatDoor
open Go.RowKit Go.Shelf

attribute [local go_sem] Oper.semAt_some

/-- What a round of a range over the secrets keeps: the table of the rounds, the boxes of the seed and the leaf. -/
def KpS (b1 b2 : Nat) (A B : World) : Prop := (Rounds A → Rounds B) ∧ B.heap[b1]? = A.heap[b1]? ∧ B.heap[b2]? = A.heap[b2]?
theorem KpS.refl {b1 b2 : Nat} (A : World) : KpS b1 b2 A A := ⟨id, rfl, rfl⟩
theorem KpS.trans {b1 b2 : Nat} {A B C : World} (h : KpS b1 b2 A B) (k : KpS b1 b2 B C) : KpS b1 b2 A C := ⟨fun r => k.1 (h.1 r), k.2.1.trans h.2.1, k.2.2.trans h.2.2⟩
theorem KpS.grown {b1 b2 : Nat} {A B : World} {row : Option Nat} (hg : A.grownBy B row) (hr : row ≠ some 18) (h1 : b1 < A.heap.size) (h2 : b2 < A.heap.size) (n1 : row ≠ some b1) (n2 : row ≠ some b2) : KpS b1 b2 A B :=
  ⟨fun r => r.grown hg (fun e => hr e.symm), hg.block b1 h1 (fun e => n1 e.symm), hg.block b2 h2 (fun e => n2 e.symm)⟩

/-- What comes as k-th. -/
def secE (seed : List Int) (lf : Int) (k : Nat) : Array Value := #[.int .i64 (k : Int), .agg (arrV .u8 (secC seed lf k))]

/-- The first k of 68. -/
def upF (k : Nat) : List (Fin 68) := (List.finRange 68).take k
theorem upF_succ (k : Nat) (hk : k < 68) : upF (k + 1) = upF k ++ [⟨k, hk⟩] := by
  rw [upF, upF, List.take_add_one, List.getElem?_eq_getElem (by simpa using hk)]
  simp
theorem upF_length (k : Nat) (hk : k ≤ 68) : (upF k).length = k := by simp [upF, hk]
theorem upF_mem (x : Fin 68) : x ∈ upF 68 := by
  rw [upF, List.take_of_length_le (by simp)]; exact List.mem_finRange x
end Go.Proofs.YtmoebkdbnldbdaaGreatDoor
