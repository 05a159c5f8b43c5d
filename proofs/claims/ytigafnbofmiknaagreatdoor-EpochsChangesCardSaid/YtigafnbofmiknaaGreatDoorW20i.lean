/- ChR, ChS, ChB, ChE, ChC -/
import Derived.Test.YtigafnbofmiknaaGreatDoorW20h
import Derived.Test.YtigafnbofmiknaaGreatDoorW20g
namespace Go.Proofs.YtigafnbofmiknaaGreatDoor
set_option maxRecDepth 100000
set_option maxHeartbeats 10000000
open Go.RowKit
section
open Go.RowKit Go.Shelf
attribute [local go_sem] Oper.semAt_some
theorem places_in (F : Fence) (m : Nat) (fr tq : Int) (w : World) (h : F = Fence.wide) : CallsIn F m Tryz.prog 146 #[.int .i64 fr, .int .i64 tq] w fun e w' => e = .returned (.func (.func 151) #[] #[.pointer (some ⟨w.heap.size, 0, none⟩), .pointer (some ⟨w.heap.size + 1, 0, none⟩)]) /\
      w' = (w.alloc (.cells #[.int .i64 fr] 3)).alloc (.cells #[.int .i64 tq] 3) := by
 subst h
 refine callsIn_of_wp Tryz.func146 rfl trivial ?_ rfl
 simp only [Tryz.ntmps146, List.size_toArray, List.length_cons, List.length_nil, Nat.reduceAdd, Nat.reduceSub, Array.replicate_succ, Array.replicate_zero, List.push_toArray, List.append_toArray, List.nil_append, List.cons_append]
 gi_wp2
 go_ret
 exact ⟨rfl, rfl⟩
theorem places_seq (m : Nat) (hm : 1 <= m) (B1 B2 : Nat) (Kp : World -> World -> Prop) (hKc : ∀ A B : World, Kp A B -> B.cell? ⟨B2, 0, none⟩ = A.cell? ⟨B2, 0, none⟩) (fr tq lo hi : Int) (n : Nat) (hlo : (¬ 0 <= fr /\ lo = 0) \/ (0 <= fr /\ lo = fr)) (hhi : (tq <= 3 /\ hi = tq) \/ (3 < tq /\ hi = 3)) (hn : n = (hi - lo).toNat) (w : World) (hB1 : B1 < w.heap.size) (hB2 : B2 < w.heap.size) (h1 : w.cell? ⟨B1, 0, none⟩ = some (.int .i64 fr)) (h2 : w.cell? ⟨B2, 0, none⟩ = some (.int .i64 tq)) :
    SeqStopsK Fence.wide m Tryz.prog 151 #[.pointer (some ⟨B1, 0, none⟩), .pointer (some ⟨B2, 0, none⟩)] (fun x : Int => #[.int .i64 x]) Kp
     (fun ys => ys = upto (vx lo) n) (fun pre => ∃ k, k <= n /\ pre = upto (vx lo) k) n w := fun l J Jx W hW _ _ hY h0 =>
 places1_in m l B1 B2 Kp fr tq lo hi n hlo hhi hn J Jx hm hKc hY W ((hW.cell (p := ⟨B1, 0, none⟩) hB1).trans h1) ((hW.cell (p := ⟨B2, 0, none⟩) hB2).trans h2) h0
def runL (x : List Int) (lf i : Int) (pre : List Int) : List Int := pre.foldl (fun y k => stepC y lf i k) x
theorem runL_snoc (x : List Int) (lf i : Int) (pre : List Int) (k : Int) : runL x lf i (pre ++ [k]) = stepC (runL x lf i pre) lf i k := by rw [runL, List.foldl_append, List.foldl_cons, List.foldl_nil, runL]
theorem zd8 (lf i : Int) : ∀ (pre : List Int) (x : List Int), isDig x -> isDig (runL x lf i pre)
 | [], x, h => by rw [runL, List.foldl_nil]; exact h
 | k :: pre, x, _ => by
  have := zd8 lf i pre (stepC x lf i k) (zdj _ _ _ _)
  rw [runL] at this
  rw [runL, List.foldl_cons]; exact this
theorem runL_upto (x : List Int) (lf i lo : Int) : ∀ n, runL x lf i (upto (vx lo) n) = runC x lf i lo n
 | 0 => by rw [runC, upto, List.range_zero, List.map_nil, runL, List.foldl_nil]
 | n + 1 => by rw [uq, runL_snoc, runL_upto x lf i lo n, zdm, vx]
theorem run_is (w : World) (hR : Rounds w) (x : List Int) (hx : isDig x) (lf i fr tq lo hi : Int) (n : Nat) (hlo : (¬ 0 <= fr /\ lo = 0) \/ (0 <= fr /\ lo = fr)) (hhi : (tq <= 3 /\ hi = tq) \/ (3 < tq /\ hi = 3)) (hn : n = (hi - lo).toNat) (rs : Array Value) (hrs : rs = arrV .u8 (runC x lf i lo n)) :
    Calls Tryz.prog 135 #[.agg (arrV .u8 x), .int .i64 lf, .int .i64 i, .int .i64 fr, .int .i64 tq] w fun e w' => e = .returned (.agg rs) /\ w.grownBy w' none := by
 obtain ⟨Z16, hZ16⟩ : ∃ Z, Z = arrV .u8 (List.replicate 16 0) := ⟨_, rfl⟩
 have hz16 : ∀ w, Sem.run Tryz.prog (zeroValue 24) w = .ok (.agg Z16) w := fun w => by rw [hZ16]; exact z16run w
 have hZs : Z16.size = 16 := by rw [hZ16]; rfl
 obtain ⟨ds, hds⟩ : ∃ ds, ds = arrV .u8 x := ⟨_, rfl⟩
 rw [<- hds]
 have HD := hQ_ (show ds = arrV .u8 (runL x lf i []) /\ ds.size = 16 /\ Z16.size = 16 from ⟨by rw [hds, runL, List.foldl_nil], by rw [hds, zf, hx.1], hZs⟩)
 have HN := hQ_ (aQ hx (aQ hlo (aQ hhi (aQ hn (aQ hrs hR)))))
 clear hZ16 hZs hds hx hlo hhi hn hrs hR
 refine (callsIn_wide (n := 5)).1 ?_
 refine callsIn_of_wp_marks Tryz.func135 rfl trivial ?_ rfl
 simp only [Tryz.ntmps135, List.size_toArray, List.length_cons, List.length_nil, Nat.reduceAdd, Nat.reduceSub, Array.replicate_succ, Array.replicate_zero, List.push_toArray, List.append_toArray, List.nil_append, List.cons_append]
 gi_wp2
 refine ⟨trivial, ?_⟩
 refine (places_in _ _ _ _ _ rfl).mono ?_
 rintro e w1 ⟨rfl, rfl⟩
 gi_wp2
 have b0 := Blk.new w 24 ds
 have b1 := Blk.new (w.alloc (.cells ds 24)) 3 #[.int .i64 lf]
 have b2 := Blk.new ((w.alloc (.cells ds 24)).alloc (.cells #[.int .i64 lf] 3)) 3 #[.int .i64 i]
 have b3 := Blk.new (((w.alloc (.cells ds 24)).alloc (.cells #[.int .i64 lf] 3)).alloc (.cells #[.int .i64 i] 3)) 24 Z16
 have b4 := Blk.new ((((w.alloc (.cells ds 24)).alloc (.cells #[.int .i64 lf] 3)).alloc (.cells #[.int .i64 i] 3)).alloc (.cells Z16 24)) 3 #[.int .i64 fr]
 have b5 := Blk.new (((((w.alloc (.cells ds 24)).alloc (.cells #[.int .i64 lf] 3)).alloc (.cells #[.int .i64 i] 3)).alloc (.cells Z16 24)).alloc (.cells #[.int .i64 fr] 3)) 3 #[.int .i64 tq]
 simp only [World.size_alloc] at b1 b2 b3 b4 b5
 have c0 := (((((b0.alloc (.cells #[.int .i64 lf] 3)).alloc (.cells #[.int .i64 i] 3)).alloc (.cells Z16 24)).alloc (.cells #[.int .i64 fr] 3)).alloc (.cells #[.int .i64 tq] 3))
 have c1 := ((((b1.alloc (.cells #[.int .i64 i] 3)).alloc (.cells Z16 24)).alloc (.cells #[.int .i64 fr] 3)).alloc (.cells #[.int .i64 tq] 3))
 have c2 := (((b2.alloc (.cells Z16 24)).alloc (.cells #[.int .i64 fr] 3)).alloc (.cells #[.int .i64 tq] 3))
 have c3 := ((b3.alloc (.cells #[.int .i64 fr] 3)).alloc (.cells #[.int .i64 tq] 3))
 have c4 := (b4.alloc (.cells #[.int .i64 tq] 3))
 have c5 := b5
 have hg0 : w.grownBy ((((((w.alloc (.cells ds 24)).alloc (.cells #[.int .i64 lf] 3)).alloc (.cells #[.int .i64 i] 3)).alloc (.cells Z16 24)).alloc (.cells #[.int .i64 fr] 3)).alloc (.cells #[.int .i64 tq] 3)) none := (za (za (za (za (za (World.grownBy_alloc w _ none) (gQ)) (gQ)) (gQ)) (gQ)) (gQ))
 obtain ⟨W0, hW0⟩ : ∃ W0, ((((((w.alloc (.cells ds 24)).alloc (.cells #[.int .i64 lf] 3)).alloc (.cells #[.int .i64 i] 3)).alloc (.cells Z16 24)).alloc (.cells #[.int .i64 fr] 3)).alloc (.cells #[.int .i64 tq] 3)) = W0 := ⟨_, rfl⟩
 have hsz : W0.heap.size = w.heap.size + 6 := by rw [<- hW0]; simp
 rw [hW0] at hg0 c0 c1 c2 c3 c4 c5 ⊢
 clear b0 b1 b2 b3 b4 b5 hW0
 have hlt := hsz
 refine wpIn_rangeFunc_ownG rfl (by omega) (gf := 151) (lb := #[.pointer (some ⟨w.heap.size + 1 + 1 + 1 + 1, 0, none⟩), .pointer (some ⟨w.heap.size + 1 + 1 + 1 + 1 + 1, 0, none⟩)]) rfl trivial (enters_of Tryz.func151 (by kernel_rfl) rfl)
  (places_seq 4 (by omega) (w.heap.size + 1 + 1 + 1 + 1) (w.heap.size + 1 + 1 + 1 + 1 + 1) (fun A B => B.cell? ⟨w.heap.size + 1 + 1 + 1 + 1 + 1, 0, none⟩ = A.cell? ⟨w.heap.size + 1 + 1 + 1 + 1 + 1, 0, none⟩) (fun _ _ h => h) fr tq lo hi n (by have := HN.out.2.1; omega) (by have := HN.out.2.2.1; omega) HN.out.2.2.2.1 W0 (by omega) (by omega) (c4.cell 0) (c5.cell 0)) (fun h1 h2 => h2.trans h1)
  (fun W l o o' hl ho hc hw => (belowK_b (w := W0) (Nat.le_refl _) W l o o' hl ho hc hw).cell (p := ⟨w.heap.size + 1 + 1 + 1 + 1 + 1, 0, none⟩) (by dsimp only; omega)) (Below.refl _ _) (fun _ => rfl)
  (fun pre W => Blk W w.heap.size 24 (arrV .u8 (runL x lf i pre)) /\ (Blk W (w.heap.size + 1) 3 #[.int .i64 lf] /\ (Blk W (w.heap.size + 1 + 1) 3 #[.int .i64 i] /\ (Blk W (w.heap.size + 1 + 1 + 1) 24 Z16 /\ (Blk W (w.heap.size + 1 + 1 + 1 + 1 + 1) 3 #[.int .i64 tq] /\ w.grownBy W none)))))
  (fun _ _ _ => False)
  (OwnFrom.and (vm _) (OwnFrom.and (vm _) (OwnFrom.and (vm _) (OwnFrom.and (vm _) (OwnFrom.and (vm _) (ownFrom_grown (by omega)))))))
  (fun _ => zbp _)
  ⟨by rw [<- HD.out.1]; exact c0, c1, c2, c3, c5, hg0⟩
  (fun kk => { tmps := #[.agg ds, .int .i64 lf, .int .i64 i, .int .i64 fr, .int .i64 tq, .pointer (some ⟨w.heap.size, 0, none⟩), .pointer (some ⟨w.heap.size + 1, 0, none⟩), .pointer (some ⟨w.heap.size + 1 + 1, 0, none⟩), undef, undef, .pointer (some ⟨w.heap.size + 1 + 1 + 1, 0, none⟩), .int .i64 kk, .int .i64 fr, .int .i64 tq, .func (.func 151) #[] #[.pointer (some ⟨w.heap.size + 1 + 1 + 1 + 1, 0, none⟩), .pointer (some ⟨w.heap.size + 1 + 1 + 1 + 1 + 1, 0, none⟩)], .int .i64 kk, undef, undef, undef, undef, undef, undef, undef, undef, undef, undef], defers := [] }) ?assign ?body ?done ?stop
 case assign =>
  intro l kk W K hK
  gi_wp2
  exact hK
 case body =>
  rintro l pre kk W ⟨hB, hL, hI, hZ, hT, hG⟩ _
  have hsl := zbq
  have hdg := zd8 lf i pre x HN.out.1
  have hss : ∀ V, W.grownBy V none -> V.cell? ⟨w.heap.size + 1, 0, none⟩ = some (.int .i64 lf) /\ V.cell? ⟨w.heap.size + 1 + 1, 0, none⟩ = some (.int .i64 i) := fun V hV => ⟨(hL.grown hV (by simp)).cell 0, (hI.grown hV (by simp)).cell 0⟩
  have HSS := hQ_ hss
  have HB := hQ_ (aQ hB (aQ hZ (aQ hG (aQ hL (aQ hI hT)))))
  have HDG := hQ_ hdg
  clear hB hL hI hZ hT hG hss hdg
  gi_wp2
  refine yt (S := fun V => V.cell? ⟨w.heap.size + 1, 0, none⟩ = some (.int .i64 lf) /\ V.cell? ⟨w.heap.size + 1 + 1, 0, none⟩ = some (.int .i64 i)) (by kernel_rfl) (by kernel_rfl) (by rintro ⟨_, _, h⟩; exact h) (HSS.out _ (zh (World.grownBy.refl W none))) (fun _ => ?_)
  refine wpAnyH_take (i := 0) (oi := _) (v := ?v0) rfl (by kernel_rfl) (by kernel_rfl) (by kernel_rfl) (fun _ _ _ h => h) (Or.inl ⟨by rfl, ?hy0⟩) (by assumption) ?rest0
  case hy0 => (intro V hSw; (try dsimp only at hSw); go_simp) <;> with_reducible rfl
  simp only [Act.put, List.getElem_toArray, List.getElem_cons_zero, List.setIfInBounds_toArray, List.set_cons_zero, List.set_cons_succ]
  refine wpAnyH_take (i := 1) (oi := _) (v := ?v1) rfl (by kernel_rfl) (by kernel_rfl) (by kernel_rfl) (fun _ _ _ h => h) (Or.inl ⟨by rfl, ?hy1⟩) (by assumption) ?rest1
  case hy1 => (intro V hSw; (try dsimp only at hSw); go_simp) <;> with_reducible rfl
  simp only [Act.put, List.getElem_toArray, List.getElem_cons_succ, List.getElem_cons_zero, List.setIfInBounds_toArray, List.set_cons_zero, List.set_cons_succ]
  refine wpAnyH_take (i := 3) (oi := _) (v := ?v3) rfl (by kernel_rfl) (by kernel_rfl) (by kernel_rfl) (fun _ _ _ h => h) (Or.inl ⟨by rfl, ?hy3⟩) (by assumption) ?rest3
  case hy3 => (intro V hSw; (try dsimp only at hSw); go_simp) <;> with_reducible rfl
  simp only [Act.put, List.getElem_toArray, List.getElem_cons_succ, List.getElem_cons_zero, List.setIfInBounds_toArray, List.set_cons_zero, List.set_cons_succ]
  refine wpAnyH_take (i := 5) (oi := _) (v := ?v5) rfl (by kernel_rfl) (by kernel_rfl) (by kernel_rfl) (fun _ _ _ h => h) (Or.inl ⟨by rfl, ?hy5⟩) (by assumption) ?rest5
  case hy5 => (intro V hSw; (try dsimp only at hSw); go_simp) <;> with_reducible rfl
  simp only [Act.put, List.getElem_toArray, List.getElem_cons_succ, List.getElem_cons_zero, List.setIfInBounds_toArray, List.set_cons_zero, List.set_cons_succ]
  refine wpAnyH_ready (rs := [2]) (by kernel_rfl) (by simp) ?_
  refine AllReadyH.cons (o := _) rfl (fun K hK => ?_) AllReadyH.nil
  go_simp
  refine (zc6 _ _).mono ?_
  rintro e V0 ⟨rfl, rfl⟩
  go_wp2_with fail
  have G1 : W.grownBy (W.drew.alloc (.cells #[.int .u8 (lf % 256)] 5)) none := za (zh (World.grownBy.refl W none)) (gQ)
  refine hK.out _ _ (HSS.out _ G1) (fun _ => ?_)
  clear hK K
  try simp only [Act.put, List.setIfInBounds_toArray, List.set_cons_zero, List.set_cons_succ]
  refine wpAnyH_ready (rs := [4]) (by kernel_rfl) (by simp) ?_
  refine AllReadyH.cons (o := _) rfl (fun K hK => ?_) AllReadyH.nil
  go_simp
  refine (zc6 _ _).mono ?_
  rintro e V1 ⟨rfl, rfl⟩
  go_wp2_with fail
  have G2 : W.grownBy ((W.drew.alloc (.cells #[.int .u8 (lf % 256)] 5)).alloc (.cells #[.int .u8 (i % 256)] 5)) none := za G1 (gQ)
  refine hK.out _ _ (HSS.out _ G2) (fun _ => ?_)
  clear hK K
  try simp only [Act.put, List.setIfInBounds_toArray, List.set_cons_zero, List.set_cons_succ]
  refine wpAnyH_ready (rs := [6]) (by kernel_rfl) (by simp) ?_
  refine AllReadyH.cons (o := _) rfl (fun K hK => ?_) AllReadyH.nil
  go_simp
  refine (zc6 _ _).mono ?_
  rintro e V2 ⟨rfl, rfl⟩
  go_wp2_with fail
  have G3 : W.grownBy (((W.drew.alloc (.cells #[.int .u8 (lf % 256)] 5)).alloc (.cells #[.int .u8 (i % 256)] 5)).alloc (.cells #[.int .u8 (kk % 256)] 5)) none := za G2 (gQ)
  refine hK.out _ _ (HSS.out _ G3) (fun _ => ?_)
  clear hK K
  try simp only [Act.put, List.setIfInBounds_toArray, List.set_cons_zero, List.set_cons_succ]
  have A4 : W.grownBy ((((W.alloc (.cells #[.int .u8 (lf % 256)] 5)).alloc (.cells #[.int .u8 (i % 256)] 5)).alloc (.cells #[.int .u8 (kk % 256)] 5)).alloc (.cells #[.slice (some ⟨w.heap.size, 0, none⟩) 16 16, .slice (some ⟨W.heap.size, 0, none⟩) 1 1, .slice (some ⟨W.heap.size + 1, 0, none⟩) 1 1, .slice (some ⟨W.heap.size + 1 + 1, 0, none⟩) 1 1] 81)) none := za (za (za (World.grownBy_alloc W _ none) (gQ)) (gQ)) (gQ)
  have HP := hQ_ (show PartsI ((((W.alloc (.cells #[.int .u8 (lf % 256)] 5)).alloc (.cells #[.int .u8 (i % 256)] 5)).alloc (.cells #[.int .u8 (kk % 256)] 5)).alloc (.cells #[.slice (some ⟨w.heap.size, 0, none⟩) 16 16, .slice (some ⟨W.heap.size, 0, none⟩) 1 1, .slice (some ⟨W.heap.size + 1, 0, none⟩) 1 1, .slice (some ⟨W.heap.size + 1 + 1, 0, none⟩) 1 1] 81)).drew (some ⟨W.heap.size + 1 + 1 + 1, 0, none⟩) [runL x lf i pre, [lf % 256], [i % 256], [kk % 256]] from by
   have := zdo (((W.alloc (.cells #[.int .u8 (lf % 256)] 5)).alloc (.cells #[.int .u8 (i % 256)] 5)).alloc (.cells #[.int .u8 (kk % 256)] 5)) 81 #[.slice (some ⟨w.heap.size, 0, none⟩) 16 16, .slice (some ⟨W.heap.size, 0, none⟩) 1 1, .slice (some ⟨W.heap.size + 1, 0, none⟩) 1 1, .slice (some ⟨W.heap.size + 1 + 1, 0, none⟩) 1 1] [runL x lf i pre, [lf % 256], [i % 256], [kk % 256]] (fun j hj => by
    have : j = 0 \/ j = 1 \/ j = 2 \/ j = 3 := by simp at hj; omega
    rcases this with rfl | rfl | rfl | rfl
    · exact ⟨_, 16, 16, rfl, HDG.out.1, Nat.le_refl _, zab (t := 24) (HB.out.1.grown A4 (by simp))⟩
    · exact ⟨_, 1, 1, rfl, rfl, Nat.le_refl _, zab (t := 5) (((((Blk.new W 5 (arrV .u8 [lf % 256])).alloc _).alloc _).alloc _))⟩
    · exact ⟨_, 1, 1, rfl, rfl, Nat.le_refl _, zab (t := 5) (by have := (Blk.new (W.alloc (.cells #[.int .u8 (lf % 256)] 5)) 5 (arrV .u8 [i % 256])); rw [World.size_alloc] at this; exact (this.alloc _).alloc _)⟩
    · exact ⟨_, 1, 1, rfl, rfl, Nat.le_refl _, zab (t := 5) (by have := (Blk.new ((W.alloc (.cells #[.int .u8 (lf % 256)] 5)).alloc (.cells #[.int .u8 (i % 256)] 5)) 5 (arrV .u8 [kk % 256])); rw [World.size_alloc, World.size_alloc] at this; exact this.alloc _)⟩)
   rw [World.size_alloc, World.size_alloc, World.size_alloc] at this
   exact this.grown (zh (World.grownBy.refl _ none)))
  have HA4 := hQ_ (zh A4)
  obtain ⟨c6, hc6⟩ : ∃ c6, c6 = arrV .u8 (runL x lf i (pre ++ [kk])) := ⟨_, rfl⟩
  have hs16 : c6.size = 16 := by rw [hc6, zf]; exact (zd8 lf i _ x HN.out.1).1
  have HS6 := hQ_ (aQ hs16 (aQ (show (c6.all fun x => x.oneCell') = true by rw [hc6]; exact zu _ _) (aQ hc6 (show arrV .u8 (ofS 2 [runL x lf i pre, [lf % 256], [i % 256], [kk % 256]]) = c6 by rw [hc6, runL_snoc, stepC]))))
  have hps : ∀ p ∈ [runL x lf i pre, [lf % 256], [i % 256], [kk % 256]], p.length <= 65536 := by
   intro p hp
   have : p.length = 16 \/ p.length = 1 := by
    simp only [List.mem_cons, List.not_mem_nil, or_false] at hp
    rcases hp with rfl | rfl | rfl | rfl
    · exact .inl HDG.out.1
    · exact .inr rfl
    · exact .inr rfl
    · exact .inr rfl
   omega
  have HPS := hQ_ hps
  clear A4 hs16 hc6 hps
  refine wpAnyH_ready (rs := [7]) (by kernel_rfl) (by simp) ?_
  refine AllReadyH.cons (o := _) rfl (fun K hK => ?_) AllReadyH.nil
  go_simp
  refine hK.out _ _ (HSS.out _ HA4.out) (fun _ => ?_)
  clear hK K
  try simp only [Act.put, List.setIfInBounds_toArray, List.set_cons_zero, List.set_cons_succ]
  refine wpAnyH_ready (rs := [8]) (by kernel_rfl) (by simp) ?_
  refine AllReadyH.cons (o := _) rfl (fun K hK => ?_) AllReadyH.nil
  go_simp
  refine (of_is _ (HN.out.2.2.2.2.2.grown (za HB.out.2.2.1 HA4.out) (by simp)) 2 _ 4 4 [runL x lf i pre, [lf % 256], [i % 256], [kk % 256]] rfl HP.out (by omega) HPS.out).mono ?_
  rintro e w9 ⟨rfl, hk9⟩
  rw [HS6.out.2.2.2]
  have HK9 := hQ_ (za HA4.out hk9)
  clear hk9
  go_wp2_with fail
  refine hK.out _ _ (HSS.out _ HK9.out) (fun _ => ?_)
  clear hK K
  try simp only [Act.put, List.setIfInBounds_toArray, List.set_cons_zero, List.set_cons_succ]
  refine wpAnyH_ready (rs := [9]) (by kernel_rfl) (by simp) ?_
  refine AllReadyH.cons (o := _) rfl (fun K hK => ?_) AllReadyH.nil
  rw [if_pos (by rfl)]
  refine wp_store_row _ _ _ rfl w.heap.size c6 rfl rfl 24 _ (HB.out.1.grown HK9.out (by simp)) (by rw [HS6.out.1]; exact info16) (by rw [HS6.out.1, zf]; exact HDG.out.1) HS6.out.2.1 ?_
  have hg9 : W.grownBy (w9.setRow w.heap.size c6) (some w.heap.size) := zc (vq HK9.out _) (.inr rfl) c6
  have hL9 := (HB.out.2.2.2.1.grown HK9.out (by simp)).farRow (g' := w.heap.size) (by omega) c6
  have hT9 := (HB.out.2.2.2.2.2.grown HK9.out (by simp)).farRow (g' := w.heap.size) (by omega) c6
  have hI9 := (HB.out.2.2.2.2.1.grown HK9.out (by simp)).farRow (g' := w.heap.size) (by omega) c6
  have hZ9 := (HB.out.2.1.grown HK9.out (by simp)).farRow (g' := w.heap.size) (by omega) c6
  refine hK.out _ _ ⟨hL9.cell 0, hI9.cell 0⟩ (fun _ => ?_)
  refine wpAnyH_done (by kernel_rfl) ?_ _
  refine ⟨(keeps_row HB.out.1 hg9).from _, ?_, ?_, hL9, hI9, hZ9, hT9, ?_⟩
  · exact (hT9.cell 0).trans (HB.out.2.2.2.2.2.cell 0).symm
  · rw [<- HS6.out.2.2.1]
    exact (HB.out.1.grown HK9.out (by simp)).row c6
  · exact zc (za HB.out.2.2.1 HK9.out) (.inl (Nat.le_refl _)) c6
 case done =>
  rintro Dd ys W hD rfl ⟨hB, hL, hI, hZ, hT, hG⟩ hK
  have hr : arrV .u8 (runL x lf i (upto (vx lo) n)) = rs := by rw [runL_upto, HN.out.2.2.2.2.1]
  rw [hr] at hB
  have hsz : rs.size = 16 := by rw [HN.out.2.2.2.2.1, zf]; exact (zc9 x lf i lo HN.out.1 n).1
  have HSS := hQ_ (aQ hsz (show (rs.all fun v => v.oneCell') = true by rw [HN.out.2.2.2.2.1]; exact zu _ _))
  have HB := hQ_ hB
  have HZ := hQ_ hZ
  have HG := hQ_ hG
  have HKD := hQ_ hK
  clear hr hsz hB hL hI hZ hT hG
  gi_wp2_with (first
      | (refine yo rfl 24 _ rfl w.heap.size rfl 24 rs (0, 0) _ HB.out Tryz.underlying24 rfl (by rw [HSS.out.1]; exact info16) ?_)
      | (refine yx rfl 24 _ _ rfl (w.heap.size + 1 + 1 + 1) rs rfl rfl 24 _ HZ.out (by rw [HSS.out.1]; exact info16) (by rw [HD.out.2.2, HSS.out.1]) HSS.out.2 ?_))
  have hK' : (W.setRow (w.heap.size + 1 + 1 + 1) rs).heap[Dd]? = some (.deferred (some [])) := (setRow_other _ _ _ _ (by omega)).trans HKD.out
  have hZ' := (HZ.out.row rs).grown (grownBy_putObj' _ Dd (.deferred none)) (by intro e; have := Option.some.inj e; omega)
  refine ⟨by simp, .inl ⟨_, _, rfl, run_takeDeferred hK', ?_⟩⟩
  refine ⟨.agg rs, ?_, rfl, z8 (zc HG.out (.inl (by omega)) rs) (grownBy_putObj' _ Dd (.deferred none)) (by omega)⟩
  exact z5 rfl _ _ _ ⟨w.heap.size + 1 + 1 + 1, 0, none⟩ (.agg rs) rfl (run_loadVar_row _ (w.heap.size + 1 + 1 + 1) 24 24 rs (0, 0) _ hZ' Tryz.underlying24 rfl (by rw [HSS.out.1]; exact info16))
 case stop => rintro Dd c pre W hD hk h hK; exact h.elim
end
section
open Go.RowKit Go.Shelf
attribute [local go_sem] Oper.semAt_some
def KpS (b1 b2 : Nat) (A B : World) : Prop := (Rounds A -> Rounds B) /\ B.heap[b1]? = A.heap[b1]? /\ B.heap[b2]? = A.heap[b2]?
theorem KpS.refl {b1 b2 : Nat} (A : World) : KpS b1 b2 A A := ⟨id, rfl, rfl⟩
theorem KpS.trans {b1 b2 : Nat} {A B C : World} (h : KpS b1 b2 A B) (k : KpS b1 b2 B C) : KpS b1 b2 A C := ⟨fun r => k.1 (h.1 r), k.2.1.trans h.2.1, k.2.2.trans h.2.2⟩
theorem KpS.grown {b1 b2 : Nat} {A B : World} {row : Option Nat} (hg : A.grownBy B row) (hr : row ≠ some 18) (h1 : b1 < A.heap.size) (h2 : b2 < A.heap.size) (n1 : row ≠ some b1) (n2 : row ≠ some b2) : KpS b1 b2 A B :=
 ⟨fun r => r.grown hg (fun e => hr e.symm), hg.block b1 h1 (fun e => n1 e.symm), hg.block b2 h2 (fun e => n2 e.symm)⟩
end
section
theorem one_is (w : World) (n : Int) (s : ByteArray) (hs : xsOf s = [n % 256]) : Calls Tryz.prog 124 #[.int .i64 n] w fun e w' => e = .returned (.string s) /\ w.grownBy w' none := by
 have hcv : Sem.run Tryz.prog (convert 81 9 (.slice (some ⟨w.heap.size, 0, none⟩) 1 1)) (w.alloc (.cells #[.int .u8 (n % 256)] 5)) = .ok (.string s) (w.alloc (.cells #[.int .u8 (n % 256)] 5)) :=
  zb2 _ _ 1 1 s (by rw [<- z4, hs]; rfl) (by rw [hs]; exact zab (Blk.new w 5 (arrV .u8 [n % 256])))
 go_enter Tryz.func124, Tryz.ntmps124
 go_wp2_with fail
 go_ret
 exact ⟨rfl, World.grownBy_alloc w _ none⟩
theorem rstep_is (w : World) (seed : List Int) (hs : isDig seed) (lf i kk : Int) :
    Calls Tryz.prog 123 #[.agg (arrV .u8 seed), .int .i64 lf, .int .i64 i, .int .i64 kk] w fun e w' => e = .returned (.agg (arrV .u8 (stepC seed lf i kk))) /\ w.grownBy w' none := by
 obtain ⟨s0, h0⟩ := zer seed hs
 obtain ⟨s1, h1⟩ := zde lf
 obtain ⟨s2, h2⟩ := zde i
 obtain ⟨s3, h3⟩ := zde kk
 obtain ⟨Z16, hZ16⟩ : ∃ Z, Z = arrV .u8 (List.replicate 16 0) := ⟨_, rfl⟩
 have hz16 : ∀ w, Sem.run Tryz.prog (zeroValue 24) w = .ok (.agg Z16) w := fun w => by rw [hZ16]; exact z16run w
 have hZs : Z16.size = 16 := by rw [hZ16]; rfl
 obtain ⟨ds, hds⟩ : ∃ ds, ds = arrV .u8 seed := ⟨_, rfl⟩
 rw [<- hds]
 have HD := hQ_ (show ds = arrV .u8 seed /\ ds.size = 16 /\ Z16.size = 16 from ⟨hds, by rw [hds, zf, hs.1], hZs⟩)
 have HS := hQ_ (aQ hs (aQ h0 (aQ h1 (aQ h2 h3))))
 clear hZ16 hZs hds hs h0 h1 h2 h3
 go_enter Tryz.func123, Tryz.ntmps123
 obtain ⟨w0, hw0⟩ : ∃ w0, w0 = (w.alloc (.cells ds 24)).alloc (.cells Z16 24) := ⟨_, rfl⟩
 have hb0 : Blk w0 w.heap.size 24 ds := by rw [hw0]; exact (Blk.new w _ ds).alloc _
 have HZ0 := hQ_ (show Blk w0 (w.heap.size + 1) 24 Z16 by rw [hw0]; have := Blk.new (w.alloc (.cells ds 24)) 24 Z16; rwa [World.size_alloc] at this)
 have HG0 := hQ_ (show w.grownBy w0 none by rw [hw0]; exact za (gQ) (gQ))
 have HB0 := hQ_ (show Blk ((w.alloc (.cells ds 24)).alloc (.cells Z16 24)) w.heap.size 24 ds from (Blk.new w _ ds).alloc _)
 have HW0 := hQ_ hw0
 clear hw0 hb0
 go_wp2_with (refine wpList_load_row rfl 24 _ rfl w.heap.size rfl 24 ds (0, 0) _ HB0.out Tryz.underlying24 rfl (by rw [HD.out.2.1]; exact info16) ?_)
 rw [<- HW0.out, HD.out.1]
 refine (zd3 w0 seed HS.out.1.1 s0 HS.out.2.1).mono ?_
 rintro e w1 ⟨rfl, hk1⟩
 have HK1 := hQ_ hk1
 clear hk1
 go_wp2_with fail
 refine (one_is w1 lf s1 HS.out.2.2.1).mono ?_
 rintro e w2 ⟨rfl, hk2⟩
 have HK2 := hQ_ (za HK1.out hk2)
 clear hk2
 go_wp2_with fail
 refine (one_is w2 i s2 HS.out.2.2.2.1).mono ?_
 rintro e w3 ⟨rfl, hk3⟩
 have HK3a := hQ_ (za HK2.out hk3)
 clear hk3
 go_wp2_with fail
 refine (one_is w3 kk s3 HS.out.2.2.2.2).mono ?_
 rintro e w4 ⟨rfl, hk4⟩
 have HK3 := hQ_ (za HK3a.out hk4)
 clear hk4
 go_wp2_with fail
 have hP := zdh w4 9 [s0, s1, s2, s3]
 have HE := hQ_ (show [s0, s1, s2, s3].map xsOf = [seed, [lf % 256], [i % 256], [kk % 256]] by simp [HS.out.2.1, HS.out.2.2.1, HS.out.2.2.2.1, HS.out.2.2.2.2])
 have hl : (vz 2 ([s0, s1, s2, s3].map xsOf)).length <= 50000 := by
  rw [HE.out]
  have := uo 2 16 [seed, [lf % 256], [i % 256], [kk % 256]] (fun p hp => by
   simp only [List.mem_cons, List.not_mem_nil, or_false] at hp
   rcases hp with rfl | rfl | rfl | rfl
   · exact Nat.le_of_eq HS.out.1.1
   · simp
   · simp
   · simp)
  simp at this
  omega
 refine (rof_is _ 2 (some ⟨w4.heap.size, 0, none⟩) 4 4 [s0, s1, s2, s3] rfl hP (by omega) (fun t ht => by
  have : (xsOf t).length = 16 \/ (xsOf t).length = 1 := by
   simp only [List.mem_cons, List.not_mem_nil, or_false] at ht
   rcases ht with rfl | rfl | rfl | rfl
   · exact .inl (by rw [HS.out.2.1]; exact HS.out.1.1)
   · exact .inr (by rw [HS.out.2.2.1]; rfl)
   · exact .inr (by rw [HS.out.2.2.2.1]; rfl)
   · exact .inr (by rw [HS.out.2.2.2.2]; rfl)
  rw [z4] at this
  omega) hl).mono ?_
 rintro e w5 ⟨rfl, hk4⟩
 rw [HE.out, <- stepC]
 obtain ⟨c6, hc6⟩ : ∃ c6, c6 = arrV .u8 (stepC seed lf i kk) := ⟨_, rfl⟩
 rw [<- hc6]
 have hs16 : c6.size = 16 := by rw [hc6, zf]; exact (zdj _ _ _ _).1
 have HS6 := hQ_ (aQ hs16 (aQ (show (c6.all fun x => x.oneCell') = true by rw [hc6]; exact zu _ _) hc6))
 have hk5 := za (World.grownBy_alloc w4 (.cells ([s0, s1, s2, s3].map Value.string).toArray 9) none) hk4
 have HK4 := hQ_ (za HG0.out (za HK3.out hk5))
 have HZ4 := hQ_ ((HZ0.out.grown HK3.out (by simp)).grown hk5 (by simp))
 clear hs16 hc6 hP hl hk4 hk5
 go_wp2_with (refine wpList_store_row rfl 24 _ _ rfl (w.heap.size + 1) c6 rfl rfl 24 _ HZ4.out (by rw [HS6.out.1]; exact info16) (by rw [HD.out.2.2, HS6.out.1]) HS6.out.2.1 ?_)
 refine bodyPost_ret (z5 rfl _ _ _ ⟨w.heap.size + 1, 0, none⟩ (.agg c6) rfl (run_loadVar_row _ (w.heap.size + 1) 24 24 c6 (0, 0) _ (HZ4.out.row c6) Tryz.underlying24 rfl (by rw [HS6.out.1]; exact info16))) rfl ?_
 exact ⟨by rw [HS6.out.2.2], zc HK4.out (.inl (Nat.le_succ _)) c6⟩
end
section
theorem rended_is (w : World) (lf : Int) (s2 : ByteArray) (hs2 : s2.size <= 2000) :
    Calls Tryz.prog 103 #[.int .i64 lf, .string s2] w fun e w' => e = .returned (.agg (arrV .u8 (pubC lf (xsOf s2)))) /\ w.grownBy w' none := by
 obtain ⟨s1, h1⟩ := zde lf
 obtain ⟨Z16, hZ16⟩ : ∃ Z, Z = arrV .u8 (List.replicate 16 0) := ⟨_, rfl⟩
 have hz16 : ∀ w, Sem.run Tryz.prog (zeroValue 24) w = .ok (.agg Z16) w := fun w => by rw [hZ16]; exact z16run w
 have HD := hQ_ (show Z16.size = 16 by rw [hZ16]; rfl)
 have HS := hQ_ (aQ h1 hs2)
 clear hZ16 h1 hs2
 go_enter Tryz.func103, Tryz.ntmps103
 obtain ⟨w0, hw0⟩ : ∃ w0, w0 = w.alloc (.cells Z16 24) := ⟨_, rfl⟩
 have HZ0 := hQ_ (show Blk w0 w.heap.size 24 Z16 by rw [hw0]; exact Blk.new w _ Z16)
 have HG0 := hQ_ (show w.grownBy w0 none by rw [hw0]; exact gQ)
 have HW0 := hQ_ hw0
 clear hw0
 go_wp2_with fail
 rw [<- HW0.out]
 refine (one_is w0 lf s1 HS.out.1).mono ?_
 rintro e w3 ⟨rfl, hk3⟩
 have HK3 := hQ_ hk3
 clear hk3
 go_wp2_with fail
 have hP := zdh w3 9 [s1, s2]
 have HE := hQ_ (show [s1, s2].map xsOf = [[lf % 256], xsOf s2] by simp [HS.out.1])
 have hl : (vz 3 ([s1, s2].map xsOf)).length <= 50000 := by
  rw [HE.out]
  have := uo 3 2000 [[lf % 256], xsOf s2] (fun p hp => by
   simp only [List.mem_cons, List.not_mem_nil, or_false] at hp
   rcases hp with rfl | rfl
   · simp
   · rw [z4]; exact HS.out.2)
  simp at this
  omega
 refine (rof_is _ 3 (some ⟨w3.heap.size, 0, none⟩) 2 2 [s1, s2] rfl hP (by omega) (fun t ht => by
  simp only [List.mem_cons, List.not_mem_nil, or_false] at ht
  rcases ht with rfl | rfl
  · rw [<- z4, HS.out.1]; simp
  · exact HS.out.2) hl).mono ?_
 rintro e w4 ⟨rfl, hk4⟩
 rw [HE.out, <- pubC]
 obtain ⟨c6, hc6⟩ : ∃ c6, c6 = arrV .u8 (pubC lf (xsOf s2)) := ⟨_, rfl⟩
 rw [<- hc6]
 have hs16 : c6.size = 16 := by rw [hc6, zf]; rw [pubC]; exact (zbb _ _).1
 have HS6 := hQ_ (aQ hs16 (aQ (show (c6.all fun x => x.oneCell') = true by rw [hc6]; exact zu _ _) hc6))
 have hk5 := za (World.grownBy_alloc w3 (.cells ([s1, s2].map Value.string).toArray 9) none) hk4
 have HK4 := hQ_ (za HG0.out (za HK3.out hk5))
 have HZ4 := hQ_ ((HZ0.out.grown HK3.out (by simp)).grown hk5 (by simp))
 clear hs16 hc6 hP hl hk4 hk5
 go_wp2_with (refine wpList_store_row rfl 24 _ _ rfl w.heap.size c6 rfl rfl 24 _ HZ4.out (by rw [HS6.out.1]; exact info16) (by rw [HD.out, HS6.out.1]) HS6.out.2.1 ?_)
 refine bodyPost_ret (z5 rfl _ _ _ ⟨w.heap.size, 0, none⟩ (.agg c6) rfl (run_loadVar_row _ w.heap.size 24 24 c6 (0, 0) _ (HZ4.out.row c6) Tryz.underlying24 rfl (by rw [HS6.out.1]; exact info16))) rfl ?_
 exact ⟨by rw [HS6.out.2.2], zc HK4.out (.inl (Nat.le_refl _)) c6⟩
end
section
theorem rstep_v (w : World) (x : List Int) (hx : isDig x) (lf i kk : Int) (ds c6 : Array Value) (h1 : ds = arrV .u8 x) (h2 : c6 = arrV .u8 (stepC x lf i kk)) :
    Calls Tryz.prog 123 #[.agg ds, .int .i64 lf, .int .i64 i, .int .i64 kk] w fun e w' => e = .returned (.agg c6) /\ w.grownBy w' none := by
 subst h1 h2
 exact rstep_is w x hx lf i kk
theorem rrun_is (w : World) (x : List Int) (hx : isDig x) (lf i lo hi : Int) (h0 : 0 <= lo) (h3 : hi <= 3) (n : Nat) (hn : n = (hi - lo).toNat) (rs : Array Value) (hrs : rs = arrV .u8 (runC x lf i lo n)) :
    Calls Tryz.prog 102 #[.agg (arrV .u8 x), .int .i64 lf, .int .i64 i, .int .i64 lo, .int .i64 hi] w fun e w' => e = .returned (.agg rs) /\ w.grownBy w' none := by
 obtain ⟨Z16, hZ16⟩ : ∃ Z, Z = arrV .u8 (List.replicate 16 0) := ⟨_, rfl⟩
 have hz16 : ∀ w, Sem.run Tryz.prog (zeroValue 24) w = .ok (.agg Z16) w := fun w => by rw [hZ16]; exact z16run w
 have hZs : Z16.size = 16 := by rw [hZ16]; rfl
 obtain ⟨ds, hds⟩ : ∃ ds, ds = arrV .u8 x := ⟨_, rfl⟩
 rw [<- hds]
 have HD := hQ_ (show ds = arrV .u8 (runC x lf i lo 0) /\ ds.size = 16 /\ Z16.size = 16 from ⟨by rw [hds, runC], by rw [hds, zf, hx.1], hZs⟩)
 have HN := hQ_ (aQ hx (aQ hn (aQ h0 (aQ h3 hrs))))
 clear hZ16 hZs hds hx hn h0 h3 hrs
 go_enter Tryz.func102, Tryz.ntmps102
 go_wp2_with fail
 obtain ⟨w0, hw0⟩ : ∃ w0, w0 = (w.alloc (.cells ds 24)).alloc (.cells Z16 24) := ⟨_, rfl⟩
 rw [<- hw0]
 have hb0 : Blk w0 w.heap.size 24 (arrV .u8 (runC x lf i lo 0)) := by rw [hw0, <- HD.out.1]; exact (Blk.new w _ ds).alloc _
 have hz0 : Blk w0 (w.heap.size + 1) 24 Z16 := by rw [hw0]; have := Blk.new (w.alloc (.cells ds 24)) 24 Z16; rwa [World.size_alloc] at this
 have hg0 : w.grownBy w0 none := by rw [hw0]; exact za (gQ) (gQ)
 have H0 := hQ_ (aQ hb0 (aQ hz0 hg0))
 clear hw0 hb0 hz0 hg0
 go_loopw [11] (fun i' wr => ∃ k : Nat, k <= n /\ i' = .int .i64 (lo + (k : Int)) /\ Blk wr w.heap.size 24 (arrV .u8 (runC x lf i lo k)) /\ Blk wr (w.heap.size + 1) 24 Z16 /\ w.grownBy wr none) (fun i' _ => (4 - intOf i').toNat)
 case atStart => exact ⟨0, by omega, by simp, H0.out⟩
 case round =>
  obtain ⟨k, hk, hi', hB, hZ, hG⟩ := hrel
  obtain ⟨I, hI⟩ : ∃ I : Int, I = lo + (k : Int) := ⟨_, rfl⟩
  rw [<- hI] at hi'
  subst hi'
  obtain ⟨cs, hcs⟩ : ∃ cs, cs = arrV .u8 (runC x lf i lo k) := ⟨_, rfl⟩
  rw [<- hcs] at hB
  have hdk := zc9 x lf i lo HN.out.1 k
  have hsz : cs.size = 16 := by rw [hcs, zf]; exact hdk.1
  by_cases hlt : k < n
  · have d1 : decide (I < hi) = true := by have := HN.out.2.1; simp; omega
    have hI3 : 0 <= I /\ I < 3 := by have := HN.out.2.1; have := HN.out.2.2.1; have := HN.out.2.2.2.1; omega
    obtain ⟨c2, hc2⟩ : ∃ c2, c2 = arrV .u8 (runC x lf i lo (k + 1)) := ⟨_, rfl⟩
    have hsz2 : c2.size = 16 := by rw [hc2, zf]; exact (zc9 x lf i lo HN.out.1 (k + 1)).1
    have HS2 := hQ_ (aQ hsz2 (show (c2.all fun v => v.oneCell') = true by rw [hc2]; exact zu _ _))
    have hstep := rstep_v wr (runC x lf i lo k) hdk lf i I cs c2 hcs (by rw [hc2, zdm, hI])
    have HST := hQ_ hstep
    have HK := hQ_ (aQ hI (aQ hlt (aQ hc2 (aQ hsz (aQ hZ hG)))))
    have HB := hQ_ hB
    clear hI hlt hcs hdk hsz hc2 hsz2 hstep hB hZ hG hk
    go_wp2_with (refine wpList_load_row rfl 24 _ rfl w.heap.size rfl 24 cs (0, 0) _ HB.out Tryz.underlying24 rfl (by rw [HK.out.2.2.2.1]; exact info16) ?_)
    refine HST.out.mono ?_
    rintro e w1 ⟨rfl, hk1⟩
    have HB1 := hQ_ (HB.out.grown hk1 (by simp))
    have HZ1 := hQ_ (HK.out.2.2.2.2.1.grown hk1 (by simp))
    have HG1 := hQ_ (za HK.out.2.2.2.2.2 hk1)
    clear hk1
    go_wp2_with (refine wpList_store_row rfl 24 _ _ rfl w.heap.size c2 rfl rfl 24 _ HB1.out (by rw [HS2.out.1]; exact info16) (by rw [HK.out.2.2.2.1, HS2.out.1]) HS2.out.2 ?_)
    go_roundw
    case rel =>
     obtain ⟨hI, hlt, hc2, _⟩ := HK.out
     refine ⟨k + 1, by omega, by rw [hI]; congr 1; omega, by rw [<- hc2]; exact HB1.out.row c2, HZ1.out.farRow (by omega) c2, zc HG1.out (.inl (Nat.le_refl _)) c2⟩
    case measure => obtain ⟨hI, hlt, _⟩ := HK.out; simp only [intOf]; omega
  · obtain rfl : k = n := by omega
    have d1 : decide (I < hi) = false := by have := HN.out.2.1; simp; omega
    have hr : cs = rs := by rw [hcs, HN.out.2.2.2.2]
    subst hr
    have HB := hQ_ hB
    have HZ := hQ_ hZ
    have HG := hQ_ hG
    have HSS := hQ_ (aQ hsz (show (cs.all fun v => v.oneCell') = true by rw [hcs]; exact zu _ _))
    clear hI hlt hcs hdk hsz hB hZ hG hk
    go_wp2_with (first
     | (refine wpList_load_row rfl 24 _ rfl w.heap.size rfl 24 cs (0, 0) _ HB.out Tryz.underlying24 rfl (by rw [HSS.out.1]; exact info16) ?_)
     | (refine wpList_store_row rfl 24 _ _ rfl (w.heap.size + 1) cs rfl rfl 24 _ HZ.out (by rw [HSS.out.1]; exact info16) (by rw [HD.out.2.2, HSS.out.1]) HSS.out.2 ?_))
    refine bodyPost_ret (z5 rfl _ _ _ ⟨w.heap.size + 1, 0, none⟩ (.agg cs) rfl (run_loadVar_row _ (w.heap.size + 1) 24 24 cs (0, 0) _ (HZ.out.row cs) Tryz.underlying24 rfl (by rw [HSS.out.1]; exact info16))) rfl ?_
    exact ⟨rfl, zc HG.out (.inl (Nat.le_succ _)) cs⟩
end
end Go.Proofs.YtigafnbofmiknaaGreatDoor
